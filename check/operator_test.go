package check

import "testing"

// TestP10_1Sets types assignments.
func TestP10_1Sets(t *testing.T) {
	exprs(t, []sample{
		{`i = 1`, `Set(i 1)`},
		{`c = 300`, `Set(c<char> Conv<char>(300))`},
		{`i = u`, `Set(i Conv(Read(u<unsigned int>)))`},
		{`u = s.b`, `Set(u<unsigned int> Read(Part.0:3+5<unsigned int>(s<struct S>)))`},
		{`b = i`, `Set(b<_Bool> Conv<_Bool>(Read(i)))`},
		{`e = 3`, `Set(e<enum E> Conv<enum E>(3))`},
		{`i = e`, `Set(i Conv(Read(e<enum E>)))`},
		{`p = 0`, `Set(p<int *> 0<int *>)`},
		{`p = q`, `Set(p<int *> Read(q<int *>))`},
		{`p = vp`, `Set(p<int *> Conv<int *>(Read(vp<void *>)))`},
		{`vp = p`, `Set(vp<void *> Conv<void *>(Read(p<int *>)))`},
		{`p = 1 - 1`, `Set(p<int *> 0<int *>)`},
		{`op = 0`, `Set(op<struct O *> 0<struct O *>)`},
		{`cp = "x"`, `Set(cp<char *> Addr<char *>(G25<char [2]>))`},
		{`s = gs()`, `Set(s<struct S> gs<struct S>)`},
		{`s = *sp`, `Set(s<struct S> Read(Deref<struct S>(Read(sp<struct S *>))))`},
		{`n = n`, `Set(n<union N> Read(n<union N>))`},
		{`s.b = 7`, `Set(Part.0:3+5<unsigned int>(s<struct S>) Conv<unsigned int>(7))`},
		{`s.t = t`, `Set(Part.16<struct T>(s<struct S>) Read(t<struct T>))`},
		{`t = s.t`, `Set(t<struct T> Read(Part.16<struct T>(s<struct S>)))`},
		{`*p = 2`, `Set(Deref(Read(p<int *>)) 2)`},
		{`a[0] = 0`, `Set(Deref(PtrAdd*4<int *>(Addr<int *>(a<int [3]>) 0)) 0)`},
		{`m[1][2] = 5`, `Set(Deref(PtrAdd*4<int *>(Addr<int *>(Deref<int [3]>(PtrAdd*12<int (*)[3]>(Addr<int (*)[3]>(m<int [2][3]>) 1))) 2)) 5)`},
		{`sp->v[1] = c`, `Set(Deref(PtrAdd*4<int *>(Addr<int *>(Part.8<int [2]>(Deref<struct S>(Read(sp<struct S *>)))) 1)) Conv(Read(c<char>)))`},
		{`"ab"[0] = 1`, `Set(Deref<char>(PtrAdd*1<char *>(Addr<char *>(G25<char [3]>) 0)) Conv<char>(1))`},
		{`(struct T){1, 2} = t`, `Set(Lit#0<struct T>(Set(Part.0<short>(L0<struct T>) Conv<short>(1)) Set(Part.2<short>(L0<struct T>) Conv<short>(2))) Read(t<struct T>))`},
		{`(i = 1) + 2`, `Bin:add(Set(i 1) 2)`},
		{`i = j = 3`, `Set(i Set(j 3))`},
	})
}

// TestP10_1Updates types op = of each kind of place.
func TestP10_1Updates(t *testing.T) {
	exprs(t, []sample{
		{`i += 1`, `Update(i Bin:add(Old 1))`},
		{`c += 1`, `Update(c<char> Conv<char>(Bin:add(Conv(Old<char>) 1)))`},
		{`u -= i`, `Update(u<unsigned int> Bin:sub<unsigned int>(Old<unsigned int> Conv<unsigned int>(Read(i))))`},
		{`i *= u`, `Update(i Conv(Bin:mul<unsigned int>(Conv<unsigned int>(Old) Read(u<unsigned int>))))`},
		{`i /= 2`, `Update(i Bin:divs(Old 2))`},
		{`u /= 2`, `Update(u<unsigned int> Bin:divu<unsigned int>(Old<unsigned int> Conv<unsigned int>(2)))`},
		{`i %= l`, `Update(i Conv(Bin:rems<long>(Conv<long>(Old) Read(l<long>))))`},
		{`i <<= u`, `Update(i Bin:shl(Old Conv(Read(u<unsigned int>))))`},
		{`u >>= 1`, `Update(u<unsigned int> Bin:shru<unsigned int>(Old<unsigned int> 1))`},
		{`c >>= 1`, `Update(c<char> Conv<char>(Bin:shrs(Conv(Old<char>) 1)))`},
		{`i &= 1`, `Update(i Bin:and(Old 1))`},
		{`i |= c`, `Update(i Bin:or(Old Conv(Read(c<char>))))`},
		{`i ^= ul`, `Update(i Conv(Bin:xor<unsigned long>(Conv<unsigned long>(Old) Read(ul<unsigned long>))))`},
		{`b += 1`, `Update(b<_Bool> Conv<_Bool>(Bin:add(Conv(Old<_Bool>) 1)))`},
		{`e += 1`, `Update(e<enum E> Conv<enum E>(Bin:add(Conv(Old<enum E>) 1)))`},
		{`p += 1`, `Update(p<int *> PtrAdd*4<int *>(Old<int *> 1))`},
		{`p -= i`, `Update(p<int *> PtrAdd*4<int *>(Old<int *> Bin:sub(0 Read(i))))`},
		{`p += s.b`, `Update(p<int *> PtrAdd*4<int *>(Old<int *> Conv(Read(Part.0:3+5<unsigned int>(s<struct S>)))))`},
		{`cp -= c`, `Update(cp<char *> PtrAdd*1<char *>(Old<char *> Bin:sub(0 Conv(Read(c<char>)))))`},
		{`s.b += 1`, `Update(Part.0:3+5<unsigned int>(s<struct S>) Conv<unsigned int>(Bin:add(Conv(Old<unsigned int>) 1)))`},
		{`s.b <<= 1`, `Update(Part.0:3+5<unsigned int>(s<struct S>) Conv<unsigned int>(Bin:shl(Conv(Old<unsigned int>) 1)))`},
		{`s.a -= 1`, `Update(Part.0:0+3(s<struct S>) Bin:sub(Old 1))`},
		{`s.w *= 2`, `Update(Part.20:0+32<unsigned int>(s<struct S>) Bin:mul<unsigned int>(Old<unsigned int> Conv<unsigned int>(2)))`},
		{`s.o |= 1`, `Update(Part.24:0+1<_Bool>(s<struct S>) Conv<_Bool>(Bin:or(Conv(Old<_Bool>) 1)))`},
		{`s.e ^= 1`, `Update(Part.24:1+4<enum E>(s<struct S>) Conv<enum E>(Bin:xor(Conv(Old<enum E>) 1)))`},
		{`s.l %= 3`, `Update(Part.24:5+7<long>(s<struct S>) Conv<long>(Bin:rems(Conv(Old<long>) 3)))`},
		{`a[1] += 2`, `Update(Deref(PtrAdd*4<int *>(Addr<int *>(a<int [3]>) 1)) Bin:add(Old 2))`},
		{`*p += 1`, `Update(Deref(Read(p<int *>)) Bin:add(Old 1))`},
		{`sp->c += 1`, `Update(Part.1<char>(Deref<struct S>(Read(sp<struct S *>))) Conv<char>(Bin:add(Conv(Old<char>) 1)))`},
		{`sp->b |= u`, `Update(Part.0:3+5<unsigned int>(Deref<struct S>(Read(sp<struct S *>))) Bin:or<unsigned int>(Conv<unsigned int>(Conv(Old<unsigned int>)) Read(u<unsigned int>)))`},
		{`n.z[2] += 1`, `Update(Deref<char>(PtrAdd*1<char *>(Addr<char *>(Part.0<char [6]>(n<union N>)) 2)) Conv<char>(Bin:add(Conv(Old<char>) 1)))`},
		{`(int){3} += 1`, `Update(Lit#0(Set(Part.0(L0) 3)) Bin:add(Old 1))`},
		{`i += j += 2`, `Update(i Bin:add(Old Update(j Bin:add(Old 2))))`},
		{`i += s.b`, `Update(i Bin:add(Old Conv(Read(Part.0:3+5<unsigned int>(s<struct S>)))))`},
	})
}

// TestP10_1Steps types ++ and -- of each kind of place.
func TestP10_1Steps(t *testing.T) {
	exprs(t, []sample{
		{`++i`, `Update(i Bin:add(Old 1))`},
		{`--i`, `Update(i Bin:sub(Old 1))`},
		{`i++`, `Update#1(i Bin:add(Old 1))`},
		{`i--`, `Update#1(i Bin:sub(Old 1))`},
		{`++p`, `Update(p<int *> PtrAdd*4<int *>(Old<int *> 1))`},
		{`p--`, `Update#1(p<int *> PtrAdd*4<int *>(Old<int *> Bin:sub(0 1)))`},
		{`pp++`, `Update#1(pp<int **> PtrAdd*4<int **>(Old<int **> 1))`},
		{`(*pp)++`, `Update#1(Deref<int *>(Read(pp<int **>)) PtrAdd*4<int *>(Old<int *> 1))`},
		{`c++`, `Update#1(c<char> Conv<char>(Bin:add(Conv(Old<char>) 1)))`},
		{`b++`, `Update#1(b<_Bool> Conv<_Bool>(Bin:add(Conv(Old<_Bool>) 1)))`},
		{`--b`, `Update(b<_Bool> Conv<_Bool>(Bin:sub(Conv(Old<_Bool>) 1)))`},
		{`e++`, `Update#1(e<enum E> Conv<enum E>(Bin:add(Conv(Old<enum E>) 1)))`},
		{`ul--`, `Update#1(ul<unsigned long> Bin:sub<unsigned long>(Old<unsigned long> Conv<unsigned long>(1)))`},
		{`--s.b`, `Update(Part.0:3+5<unsigned int>(s<struct S>) Conv<unsigned int>(Bin:sub(Conv(Old<unsigned int>) 1)))`},
		{`s.b++`, `Update#1(Part.0:3+5<unsigned int>(s<struct S>) Conv<unsigned int>(Bin:add(Conv(Old<unsigned int>) 1)))`},
		{`s.a++`, `Update#1(Part.0:0+3(s<struct S>) Bin:add(Old 1))`},
		{`(*p)++`, `Update#1(Deref(Read(p<int *>)) Bin:add(Old 1))`},
		{`*p++`, `Read(Deref(Update#1(p<int *> PtrAdd*4<int *>(Old<int *> 1))))`},
		{`++*p`, `Update(Deref(Read(p<int *>)) Bin:add(Old 1))`},
		{`a[i++]--`, `Update#1(Deref(PtrAdd*4<int *>(Addr<int *>(a<int [3]>) Update#1(i Bin:add(Old 1)))) Bin:sub(Old 1))`},
		{`++sp->t.x`, `Update(Part.0<short>(Part.16<struct T>(Deref<struct S>(Read(sp<struct S *>)))) Conv<short>(Bin:add(Conv(Old<short>) 1)))`},
		{`n.n++`, `Update#1(Part.0(n<union N>) Bin:add(Old 1))`},
		{`(short){1}++`, `Update#1(Lit#0<short>(Set(Part.0<short>(L0<short>) Conv<short>(1))) Conv<short>(Bin:add(Conv(Old<short>) 1)))`},
	})
}

// TestP10_1Conds types ? :.
func TestP10_1Conds(t *testing.T) {
	exprs(t, []sample{
		{`i ? j : 1`, `Cond(Read(i) Read(j) 1)`},
		{`c ? h : uc`, `Cond(Read(c<char>) Conv(Read(h<short>)) Conv(Read(uc<unsigned char>)))`},
		{`i ? u : l`, `Cond<unsigned long>(Read(i) Conv<unsigned long>(Read(u<unsigned int>)) Conv<unsigned long>(Read(l<long>)))`},
		{`p ? 1 : 2u`, `Cond<unsigned int>(Read(p<int *>) Conv<unsigned int>(1) 2<unsigned int>)`},
		{`s.b ? s.b : s.w`, `Cond<unsigned int>(Read(Part.0:3+5<unsigned int>(s<struct S>)) Conv<unsigned int>(Conv(Read(Part.0:3+5<unsigned int>(s<struct S>)))) Read(Part.20:0+32<unsigned int>(s<struct S>)))`},
		{`i ? s.b : s.a`, `Cond(Read(i) Conv(Read(Part.0:3+5<unsigned int>(s<struct S>))) Read(Part.0:0+3(s<struct S>)))`},
		{`i ? s.a : s.b`, `Cond(Read(i) Read(Part.0:0+3(s<struct S>)) Conv(Read(Part.0:3+5<unsigned int>(s<struct S>))))`},
		{`i ? 0 : u`, `Cond<unsigned int>(Read(i) Conv<unsigned int>(0) Read(u<unsigned int>))`},
		{`i ? u : 0`, `Cond<unsigned int>(Read(i) Read(u<unsigned int>) Conv<unsigned int>(0))`},
		{`i ? s.b : u`, `Cond<unsigned int>(Read(i) Conv<unsigned int>(Conv(Read(Part.0:3+5<unsigned int>(s<struct S>)))) Read(u<unsigned int>))`},
		{`b ? e : e`, `Cond(Read(b<_Bool>) Conv(Read(e<enum E>)) Conv(Read(e<enum E>)))`},
		{`i ? A : B`, `Cond(Read(i) 0 5)`},
		{`i ? p : 0`, `Cond<int *>(Read(i) Read(p<int *>) 0<int *>)`},
		{`i ? 0 : p`, `Cond<int *>(Read(i) 0<int *> Read(p<int *>))`},
		{`i ? 0L : vp`, `Cond<void *>(Read(i) 0<void *> Read(vp<void *>))`},
		{`i ? p : 1 - 1`, `Cond<int *>(Read(i) Read(p<int *>) 0<int *>)`},
		{`i ? p : vp`, `Cond<void *>(Read(i) Conv<void *>(Read(p<int *>)) Read(vp<void *>))`},
		{`i ? vp : p`, `Cond<void *>(Read(i) Read(vp<void *>) Conv<void *>(Read(p<int *>)))`},
		{`i ? a : p`, `Cond<int *>(Read(i) Addr<int *>(a<int [3]>) Read(p<int *>))`},
		{`i ? a : a`, `Cond<int *>(Read(i) Addr<int *>(a<int [3]>) Addr<int *>(a<int [3]>))`},
		{`i ? "a" : "bc"`, `Cond<char *>(Read(i) Addr<char *>(G25<char [2]>) Addr<char *>(G26<char [3]>))`},
		{`i ? s : gs()`, `Cond<struct S>(Read(i) Read(s<struct S>) gs<struct S>)`},
		{`i ? n : n`, `Cond<union N>(Read(i) Read(n<union N>) Read(n<union N>))`},
		{`i ? v() : v()`, `Cond<void>(Read(i) v<void> v<void>)`},
		{`i ? (void)1 : v()`, `Cond<void>(Read(i) Void<void>(1) v<void>)`},
	})
}

// TestP10_1Calls types calls.
func TestP10_1Calls(t *testing.T) {
	exprs(t, []sample{
		{`f(1, "x")`, `f(1 Addr<char *>(G25<char [2]>))`},
		{`f(c, 0)`, `f(Conv(Read(c<char>)) 0<char *>)`},
		{`f(s.b, ca)`, `f(Conv(Read(Part.0:3+5<unsigned int>(s<struct S>))) Addr<char *>(ca<char [4]>))`},
		{`f(u, vp)`, `f(Conv(Read(u<unsigned int>)) Conv<char *>(Read(vp<void *>)))`},
		{`f(e, A)`, `f(Conv(Read(e<enum E>)) 0<char *>)`},
		{`f(f(1, cp), cp)`, `f(f(1 Read(cp<char *>)) Read(cp<char *>))`},
		{`(f)(1, 0)`, `f(1 0<char *>)`},
		{`v()`, `v<void>`},
		{`gs()`, `gs<struct S>`},
		{`gp()`, `gp<int *>`},
		{`gn(n)`, `gn<union N>(Read(n<union N>))`},
		{`main()`, `main`},
		{`putchar(c)`, `Put(Conv(Read(c<char>)))`},
		{`putchar('x')`, `Put(120)`},
		{`putchar(getchar())`, `Put(Get)`},
		{`getchar()`, `Get`},
		{`exit(1)`, `Exit<void>(1)`},
		{`exit(s.b)`, `Exit<void>(Conv(Read(Part.0:3+5<unsigned int>(s<struct S>))))`},
	})
}

// TestP10_1Casts types casts.
func TestP10_1Casts(t *testing.T) {
	exprs(t, []sample{
		{`(int)c`, `Conv(Read(c<char>))`},
		{`(int)i`, `Read(i)`},
		{`(char)0`, `Conv<char>(0)`},
		{`(unsigned)0`, `Conv<unsigned int>(0)`},
		{`(_Bool)0`, `Conv<_Bool>(0)`},
		{`(char)300`, `Conv<char>(300)`},
		{`(unsigned)s.b`, `Read(Part.0:3+5<unsigned int>(s<struct S>))`},
		{`(enum E)i`, `Conv<enum E>(Read(i))`},
		{`(int)e`, `Conv(Read(e<enum E>))`},
		{`(long)u`, `Conv<long>(Read(u<unsigned int>))`},
		{`(I)c`, `Conv(Read(c<char>))`},
		{`(unsigned char)-1`, `Conv<unsigned char>(Bin:sub(0 1))`},
		{`(_Bool)i`, `Conv<_Bool>(Read(i))`},
		{`(_Bool)b`, `Read(b<_Bool>)`},
		{`(_Bool)p`, `Conv<_Bool>(Not(Not(Read(p<int *>))))`},
		{`(_Bool)a`, `Conv<_Bool>(Not(Not(Addr<int *>(a<int [3]>))))`},
		{`(void)i`, `Void<void>(Read(i))`},
		{`(void)v()`, `Void<void>(v<void>)`},
		{`(void)s`, `Void<void>(Read(s<struct S>))`},
		{`(void)a`, `Void<void>(Addr<int *>(a<int [3]>))`},
		{`(void)(void)1`, `Void<void>(Void<void>(1))`},
		{`(int *)0`, `0<int *>`},
		{`(void *)0`, `0<void *>`},
		{`(char *)(1 - 1)`, `0<char *>`},
		{`(struct O *)A`, `0<struct O *>`},
		{`(int *)vp`, `Conv<int *>(Read(vp<void *>))`},
		{`(void *)p`, `Conv<void *>(Read(p<int *>))`},
		{`(char *)p`, `Conv<char *>(Read(p<int *>))`},
		{`(int *)p`, `Read(p<int *>)`},
		{`(int *)(void *)0`, `Conv<int *>(0<void *>)`},
		{`(struct O *)sp`, `Conv<struct O *>(Read(sp<struct S *>))`},
		{`(int (*)[3])a`, `Conv<int (*)[3]>(Addr<int *>(a<int [3]>))`},
	})
}

// TestP10_1Sizes reckons sizeof.
func TestP10_1Sizes(t *testing.T) {
	exprs(t, []sample{
		{`sizeof(int)`, `4<unsigned int>`},
		{`sizeof(char)`, `1<unsigned int>`},
		{`sizeof(struct S)`, `28<unsigned int>`},
		{`sizeof(int[3])`, `12<unsigned int>`},
		{`sizeof(I *)`, `4<unsigned int>`},
		{`sizeof(struct Q { char c; short h; })`, `4<unsigned int>`},
		{`sizeof(union { char c[3]; short h; })`, `4<unsigned int>`},
		{`sizeof i`, `4<unsigned int>`},
		{`sizeof c`, `1<unsigned int>`},
		{`sizeof +c`, `4<unsigned int>`},
		{`sizeof(c, c)`, `1<unsigned int>`},
		{`sizeof a`, `12<unsigned int>`},
		{`sizeof m[0]`, `12<unsigned int>`},
		{`sizeof s`, `28<unsigned int>`},
		{`sizeof s.v`, `8<unsigned int>`},
		{`sizeof "abc"`, `4<unsigned int>`},
		{`sizeof *p`, `4<unsigned int>`},
		{`sizeof &*op`, `4<unsigned int>`},
		{`sizeof i++`, `4<unsigned int>`},
		{`sizeof (i = 1)`, `4<unsigned int>`},
		{`sizeof sizeof i`, `4<unsigned int>`},
		{`sizeof gs()`, `28<unsigned int>`},
		{`sizeof gs().v`, `4<unsigned int>`},
		{`sizeof gs().t`, `4<unsigned int>`},
		{`sizeof (int[]){1, 2, 3}`, `12<unsigned int>`},
		{`sizeof (char[]){"abc"}`, `4<unsigned int>`},
		{`sizeof (char *[]){"abc", "d"}`, `8<unsigned int>`},
	})
}

// TestP10_1Offsets reckons offsetof.
func TestP10_1Offsets(t *testing.T) {
	exprs(t, []sample{
		{`offsetof(struct S, c)`, `1<unsigned int>`},
		{`offsetof(struct S, v)`, `8<unsigned int>`},
		{`offsetof(struct S, v[1])`, `12<unsigned int>`},
		{`offsetof(struct S, t.y)`, `18<unsigned int>`},
		{`offsetof(union N, z[B])`, `5<unsigned int>`},
		{`offsetof(struct S, v[1 + sizeof(char) - 1])`, `12<unsigned int>`},
		{`offsetof(struct S, v[sizeof "x" - 1])`, `12<unsigned int>`},
		{`offsetof(struct { char c; int m[2][3]; }, m[1][2])`, `24<unsigned int>`},
	})
}

// TestP10_1Literals types literals within a function.
func TestP10_1Literals(t *testing.T) {
	exprs(t, []sample{
		{`(int){1}`, `Read(Lit#0(Set(Part.0(L0) 1)))`},
		{`(int){c}`, `Read(Lit#0(Set(Part.0(L0) Conv(Read(c<char>)))))`},
		{`(_Bool){2}`, `Read(Lit#0<_Bool>(Set(Part.0<_Bool>(L0<_Bool>) Conv<_Bool>(2))))`},
		{`(int *){0}`, `Read(Lit#0<int *>(Set(Part.0<int *>(L0<int *>) 0<int *>)))`},
		{`(char *){"ab"}`, `Read(Lit#0<char *>(Set(Part.0<char *>(L0<char *>) Addr<char *>(G25<char [3]>))))`},
		{`(struct T){1, 2}`, `Read(Lit#0<struct T>(Set(Part.0<short>(L0<struct T>) Conv<short>(1)) Set(Part.2<short>(L0<struct T>) Conv<short>(2))))`},
		{`(struct T){.y = 1}`, `Read(Lit#0<struct T>(Set(Part.2<short>(L0<struct T>) Conv<short>(1))))`},
		{`(struct S){1, 2, 'c', p, {1, 2}, {3, 4}, 5, 6, 7, 8}`, `Read(Lit#0<struct S>(Set(Part.0:0+3(L0<struct S>) 1) Set(Part.0:3+5<unsigned int>(L0<struct S>) Conv<unsigned int>(2)) Set(Part.1<char>(L0<struct S>) Conv<char>(99)) Set(Part.4<int *>(L0<struct S>) Read(p<int *>)) Set(Part.8(L0<struct S>) 1) Set(Part.12(L0<struct S>) 2) Set(Part.16<short>(L0<struct S>) Conv<short>(3)) Set(Part.18<short>(L0<struct S>) Conv<short>(4)) Set(Part.20:0+32<unsigned int>(L0<struct S>) Conv<unsigned int>(5)) Set(Part.24:0+1<_Bool>(L0<struct S>) Conv<_Bool>(6)) Set(Part.24:1+4<enum E>(L0<struct S>) Conv<enum E>(7)) Set(Part.24:5+7<long>(L0<struct S>) Conv<long>(8))))`},
		{`(struct S){.t = t, .b = i, .v[1] = c}`, `Read(Lit#0<struct S>(Set(Part.16<struct T>(L0<struct S>) Read(t<struct T>)) Set(Part.0:3+5<unsigned int>(L0<struct S>) Conv<unsigned int>(Read(i))) Set(Part.12(L0<struct S>) Conv(Read(c<char>)))))`},
		{`(union N){.z = "xy"}`, `Read(Lit#0<union N>(Set(Part.0<char>(L0<union N>) 120<char>) Set(Part.1<char>(L0<union N>) 121<char>)))`},
		{`(int[]){1, 2}`, `Addr<int *>(Lit#0<int [2]>(Set(Part.0(L0<int [2]>) 1) Set(Part.4(L0<int [2]>) 2)))`},
		{`(int[3]){[1] = i}`, `Addr<int *>(Lit#0<int [3]>(Set(Part.4(L0<int [3]>) Read(i))))`},
		{`(struct T[2]){{1}, [1].y = 2}`, `Addr<struct T *>(Lit#0<struct T [2]>(Set(Part.0<short>(L0<struct T [2]>) Conv<short>(1)) Set(Part.6<short>(L0<struct T [2]>) Conv<short>(2))))`},
		{`(char[]){"ab"}`, `Addr<char *>(Lit#0<char [3]>(Set(Part.0<char>(L0<char [3]>) 97<char>) Set(Part.1<char>(L0<char [3]>) 98<char>)))`},
		{`(char[4]){"a\0b"}`, `Addr<char *>(Lit#0<char [4]>(Set(Part.0<char>(L0<char [4]>) 97<char>) Set(Part.2<char>(L0<char [4]>) 98<char>)))`},
		{`(unsigned char[]){"\377\0\1"}`, `Addr<unsigned char *>(Lit#0<unsigned char [4]>(Set(Part.0<unsigned char>(L0<unsigned char [4]>) 255<unsigned char>) Set(Part.2<unsigned char>(L0<unsigned char [4]>) 1<unsigned char>)))`},
		{`(signed char[2]){"\377a"}`, `Addr<signed char *>(Lit#0<signed char [2]>(Set(Part.0<signed char>(L0<signed char [2]>) -1<signed char>) Set(Part.1<signed char>(L0<signed char [2]>) 97<signed char>)))`},
		{`(char *[]){"ab", "c"}`, `Addr<char **>(Lit#0<char *[2]>(Set(Part.0<char *>(L0<char *[2]>) Addr<char *>(G25<char [3]>)) Set(Part.4<char *>(L0<char *[2]>) Addr<char *>(G26<char [2]>))))`},
		{`(int *[2]){a, (int[]){7, 8}}`, `Addr<int **>(Lit#0<int *[2]>(Set(Part.0<int *>(L0<int *[2]>) Addr<int *>(a<int [3]>)) Set(Part.4<int *>(L0<int *[2]>) Addr<int *>(Lit#1<int [2]>(Set(Part.0(L1<int [2]>) 7) Set(Part.4(L1<int [2]>) 8))))))`},
	})
}
