/-
  Bin on both memories: the same answer.
  Both memories side by side, each with what its blocks hold.
  The program's calls on both memories.
  The given answer's calls on both memories.
-/
import Derived.Test.YtigiahcfcglacaaRmS
import Derived.Test.YtigiahcfcglacaaRmG
import Derived.Test.YtigiahcfcglacaaRmF
import Derived.Test.YtigiahcfcglacaaRmK
import Derived.Test.YtigiahcfcglacaaMmW
import Derived.Test.YtigiahcfcglacaaRmM
import Derived.Test.YtigiahcfcglacaaRmP
import Derived.Test.YtigiahcfcglacaaRmQ
import Derived.Test.YtigiahcfcglacaaRmR
import Derived.Test.YtigiahcfcglacaaWExt
namespace Go.Proofs.Ytigiahcfcglacaa
open Go.RowKit Go.Maps
set_option linter.unusedVariables false
set_option maxRecDepth 100000
abbrev St : Type := List (Option Bk)
def stX (xs : List (Option Bx)) : St := xs.map (Option.map Bx.bk)
theorem look_map {α β : Type} (f : α → β) (xs : List (Option α)) (n : Int) : look (xs.map (Option.map f)) n = (look xs n).map f := by
  unfold look
  split
  · rw [List.getElem?_map]
    cases h : xs[(n - 1).toNat]? with
    | none => rfl
    | some x => cases x <;> rfl
  · rfl
theorem look_stX (xs : List (Option Bx)) (n : Int) : look (stX xs) n = (look xs n).map Bx.bk := look_map _ _ _
theorem good_stX (xs : List (Option Bx)) (p : Vl) : goodS (stX xs) p = (goodX xs p).map Bx.bk := by
  unfold goodS goodX goodG
  by_cases h : p.kind = 2
  · rw [if_pos h, if_pos h, look_stX]
    cases hl : look xs p.block with
    | none => rfl
    | some x => by_cases hv : p.v ≤ (x.bk.size : Int) <;> simp [Option.filter, hv]
  · rw [if_neg h, if_neg h]; rfl
theorem room_stX (xs : List (Option Bx)) (p : Vl) (n w : Int) : roomS (stX xs) p n w = (roomX xs p n w).map Bx.bk := by
  have hg := good_stX xs p
  unfold goodS goodX at hg
  unfold roomS roomX roomG
  rw [hg]
  cases h : goodG (fun x => x.bk.size) xs p with
  | none => rfl
  | some x =>
    simp only [Option.map_some]
    by_cases hv : (isW w && decide (w ≤ x.bk.align) && decide (p.v % w = 0) && decide (1 ≤ n) && decide (n ≤ (x.bk.size : Int) - p.v)) = true <;> simp [Option.filter, hv]
theorem alive_stX (xs : List (Option Bx)) : alive (stX xs) = alive xs := by
  unfold alive stX
  rw [List.countP_map]
  congr 1
  funext x
  cases x <;> rfl
def usS (s : St) (v : Vl) : Bool := decide (v.kind = 1) || (goodS s v).isSome
theorem us_stX (xs : List (Option Bx)) (v : Vl) : usX xs v = usS (stX xs) v := by
  unfold usX usS
  rw [good_stX]; simp
theorem stX_at {xs : List (Option Bx)} {i : Nat} {k : Bk} (h : (stX xs)[i]? = some (some k)) : ∃ x, xs[i]? = some (some x) ∧ x.bk = k := by
  unfold stX at h
  rw [List.getElem?_map] at h
  cases hx : xs[i]? with
  | none => rw [hx] at h; cases h
  | some x =>
    rw [hx] at h
    cases x with
    | none => simp at h
    | some x => simp at h; exact ⟨x, rfl, h⟩
theorem stX_set (xs : List (Option Bx)) (i : Nat) (x : Option Bx) : stX (xs.set i x) = (stX xs).set i (x.map Bx.bk) := by unfold stX; rw [List.map_set]
theorem stR_set (ys : List Ry) (i : Nat) (y : Ry) : stR (ys.set i y) = (stR ys).set i y.bk := by unfold stR; rw [List.map_set]
/-- The blocks of N have not turned. -/
def Kept (N : Nat → Prop) (w w' : World) : Prop := Turned w w' (fun k => ¬ N k)
theorem Kept.trans {N : Nat → Prop} {a b c : World} (h : Kept N a b) (k : Kept N b c) : Kept N a c := Turned.trans h k (fun _ _ h => h)
theorem Kept.below {N : Nat → Prop} {w w' : World} (h : Below w.heap.size w w') : Kept N w w' := Turned.of_below h _
theorem Kept.mono {N N' : Nat → Prop} {w w' : World} (h : Kept N w w') (hn : ∀ k, N' k → N k) : Kept N' w w' := Turned.mono h (fun k hk hN => hk (hn k hN))
theorem Kept.heap {N : Nat → Prop} {w w' : World} (h : Kept N w w') {k : Nat} (hk : k < w.heap.size) (hN : N k) : w'.heap[k]? = w.heap[k]? := h.block k hk (fun c => c hN)
theorem Kept.cell {N : Nat → Prop} {w w' : World} (h : Kept N w w') {k : Nat} (hk : k < w.heap.size) (hN : N k) (j : Nat) : w'.cell? ⟨k, j, none⟩ = w.cell? ⟨k, j, none⟩ := World.cell?_of_block (h.heap hk hN)
/-- Both memories: the program's holds s1, the given answer's s2; none of their blocks is one of N. -/
structure D (N : Nat → Prop) (b rb : Nat) (s1 s2 : St) (w : World) : Prop where
  ex : ∃ xs P ys R, MemX w b xs P ∧ RX w rb ys R ∧ stX xs = s1 ∧ stR ys = s2 ∧ (∀ k, P k → ¬ N k) ∧ (∀ k, R k → ¬ N k) ∧ (∀ k, P k → ¬ R k)
  al : alive s1 ≤ 4096
  le : ∀ k, N k → k < w.heap.size
structure SOK (s : St) : Prop where
  sz : ∀ (i : Nat) (k : Bk), s[i]? = some (some k) → 1 ≤ k.size ∧ k.size ≤ 16384 ∧ (k.align = 1 ∨ k.align = 2 ∨ k.align = 4)
namespace D
variable {N : Nat → Prop} {b rb : Nat} {s1 s2 : St} {w w' : World}
theorem below (h : D N b rb s1 s2 w) (hb : Below w.heap.size w w') : D N b rb s1 s2 w' := by
  obtain ⟨xs, P, ys, R, h1, h2, h3⟩ := h.ex
  exact ⟨⟨xs, P, ys, R, h1.keptB hb, h2.keptB hb, h3⟩, h.al, fun k hk => Nat.lt_of_lt_of_le (h.le k hk) hb.size⟩
theorem bw (h : D N b rb s1 s2 w) (hb : Below w.heap.size w w') : Kept N w w' := Turned.of_below hb _
theorem widen (h : D N b rb s1 s2 w) (hb : Below w.heap.size w w') {N' : Nat → Prop} (hN : ∀ k, N' k → N k ∨ w.heap.size ≤ k) (hlt : ∀ k, N' k → k < w'.heap.size) : D N' b rb s1 s2 w' := by
  obtain ⟨xs, P, ys, R, h1, h2, e1, e2, h3, h4, h5⟩ := h.ex
  refine ⟨⟨xs, P, ys, R, h1.keptB hb, h2.keptB hb, e1, e2, fun k hk hn => ?_, fun k hk hn => ?_, h5⟩, h.al, hlt⟩
  · rcases hN k hn with c | c
    · exact h3 k hk c
    · exact absurd (h1.lt k hk) (by omega)
  · rcases hN k hn with c | c
    · exact h4 k hk c
    · exact absurd (h2.lt k hk) (by omega)
theorem narrow (h : D N b rb s1 s2 w) {N' : Nat → Prop} (hN : ∀ k, N' k → N k) : D N' b rb s1 s2 w := by
  obtain ⟨xs, P, ys, R, h1, h2, e1, e2, h3, h4, h5⟩ := h.ex
  exact ⟨⟨xs, P, ys, R, h1, h2, e1, e2, fun k hk hn => h3 k hk (hN k hn), fun k hk hn => h4 k hk (hN k hn), h5⟩, h.al, fun k hk => h.le k (hN k hk)⟩
theorem ok1 (h : D N b rb s1 s2 w) : SOK s1 := by
  obtain ⟨xs, P, ys, R, h1, h2, rfl, h4⟩ := h.ex
  refine ⟨fun i k hk => ?_⟩
  obtain ⟨x, hx, rfl⟩ := stX_at hk
  have := h1.at_ hx
  exact ⟨this.one, this.max, this.al⟩
theorem ok2 (h : D N b rb s1 s2 w) : SOK s2 := by
  obtain ⟨xs, P, ys, R, h1, h2, _, rfl, h4⟩ := h.ex
  refine ⟨fun i k hk => ?_⟩
  obtain ⟨y, hy, hyk⟩ := st_at hk
  obtain ⟨ow, ho⟩ := h2.own
  have := ho i y k hy hyk
  exact ⟨this.one, this.max, this.okal⟩
theorem prog {xs' : List (Option Bx)} {P P' : Nat → Prop} {ys : List Ry} {R : Nat → Prop} (hR : RX w rb ys R) (hP0 : ∀ k, P k → ¬ N k) (hR0 : ∀ k, R k → ¬ N k) (hap : ∀ k, P k → ¬ R k) (hB : ∀ k, N k → k < w.heap.size) (hM' : MemX w' b xs' P') (ht : Turned w w' P) (hn : ∀ m, P' m → P m ∨ w.heap.size ≤ m) (hal : alive xs' ≤ 4096) :
    D N b rb (stX xs') (stR ys) w' ∧ Kept N w w' := by
  refine ⟨⟨⟨xs', P', ys, R, hM', hR.kept ht (fun k hk hp => hap k hp hk), rfl, rfl, fun k hk => ?_, hR0, fun k hk hr => ?_⟩, by rw [alive_stX]; exact hal, fun k hk => Nat.lt_of_lt_of_le (hB k hk) ht.size⟩, ht.mono hP0⟩
  · rcases hn k hk with h | h
    · exact hP0 k h
    · exact fun hN => absurd (hB k hN) (by omega)
  · rcases hn k hk with h | h
    · exact hap k h hr
    · exact absurd (hR.lt k hr) (by omega)
theorem ref {xs : List (Option Bx)} {P R' : Nat → Prop} {ys' : List Ry} {R : Nat → Prop} (hM : MemX w b xs P) (hP0 : ∀ k, P k → ¬ N k) (hR0 : ∀ k, R k → ¬ N k) (hap : ∀ k, P k → ¬ R k) (hB : ∀ k, N k → k < w.heap.size) (hR' : RX w' rb ys' R') (ht : Turned w w' R) (hn : ∀ m, R' m → R m ∨ w.heap.size ≤ m) (hal : alive (stX xs) ≤ 4096) :
    D N b rb (stX xs) (stR ys') w' ∧ Kept N w w' := by
  refine ⟨⟨⟨xs, P, ys', R', hM.kept ht hap, hR', rfl, rfl, hP0, fun k hk => ?_, fun k hk hr => ?_⟩, hal, fun k hk => Nat.lt_of_lt_of_le (hB k hk) ht.size⟩, ht.mono hR0⟩
  · rcases hn k hk with h | h
    · exact hR0 k h
    · exact fun hN => absurd (hB k hN) (by omega)
  · rcases hn k hr with h | h
    · exact hap k hk h
    · exact absurd (hM.lt k hk) (by omega)
end D
/-- What the calls answer, and what the blocks hold behind them. -/
def mkA (s : St) (n al : Int) : Int × Int := if okMake n al = false then (0, 2) else if 4096 ≤ alive s then (0, 32) else ((s.length : Int) + 1, 0)
def mkN (s : St) (n al : Int) : St := if okMake n al = false then s else if 4096 ≤ alive s then s else s ++ [some ⟨n.toNat, al, fun _ => clZ⟩]
def enA (s : St) (n : Int) : Int := if (look s n).isSome then 0 else 2
def enN (s : St) (n : Int) : St := if (look s n).isSome then s.set (n - 1).toNat none else s
def ldA (s : St) (p : Vl) (n : Int) (g : Bool) : Vl × Int := match roomS s p n n with
  | none => (vlZ, 3)
  | some k => match loadB k p.v.toNat n.toNat g with
    | none => (vlZ, 3)
    | some r => (r, 0)
def stA (s : St) (p : Vl) (n : Int) (q : Vl) : Int := if (roomS s p n n).isSome && storesB q n then 0 else 3
def stN (s : St) (p : Vl) (n : Int) (q : Vl) : St := match roomS s p n n with
  | none => s
  | some k => if storesB q n then s.set (p.block - 1).toNat (some (k.fill p.v.toNat (stCell q) n.toNat)) else s
def zeA (s : St) (p : Vl) (n : Int) : Int := if (roomS s p n 1).isSome then 0 else 3
def zeN (s : St) (p : Vl) (n : Int) : St := match roomS s p n 1 with
  | none => s
  | some k => s.set (p.block - 1).toNat (some (k.fill p.v.toNat (fun _ => byte0) n.toNat))
def cpOk (s : St) (p q : Vl) (n al : Int) : Bool := (roomS s p n al).isSome && (roomS s q n al).isSome && !clashB p q n
def cpA (s : St) (p q : Vl) (n al : Int) : Int := if cpOk s p q n al then 0 else 3
def cpN (s : St) (p q : Vl) (n al : Int) : St := match roomS s p n al, roomS s q n al with
  | some k1, some k2 => if clashB p q n then s else s.set (p.block - 1).toNat (some (cpy k1 (p.block - 1).toNat (q.block - 1).toNat k2 p.v.toNat q.v.toNat n.toNat))
  | _, _ => s
def trA (s : St) (p : Vl) : Bool × Int := if p.kind = 1 then (!decide (p.v = 0), 0) else if (goodS s p).isSome then (true, 0) else (false, 3)
end Go.Proofs.Ytigiahcfcglacaa
namespace Go.Proofs.Ytigiahcfcglacaa
open Go.RowKit Go.Maps
set_option linter.unusedVariables false
set_option maxRecDepth 100000
section
variable {N : Nat → Prop} {b rb : Nat} {s1 s2 : St} {w : World}
theorem alive_app {α : Type} (xs : List (Option α)) (x : α) : alive (xs ++ [some x]) = alive xs + 1 := by unfold alive; simp
theorem alive_set_none {α : Type} (xs : List (Option α)) (i : Nat) : alive (xs.set i none) ≤ alive xs := by
  unfold alive
  by_cases h : i < xs.length
  · rw [List.countP_set h]; simp
  · rw [List.set_eq_of_length_le (by omega)]; exact Nat.le_refl _
theorem pMake (h : D N b rb s1 s2 w) (n al : Int) (n0 : -9223372036854775808 ≤ n) (hl : s1.length + 1 < 3518437208883) :
    Calls Try.prog 28 #[.pointer (some ⟨b, 0, none⟩), .int .i64 n, .int .i64 al] w fun e w' => e = .returned (.tuple #[.int .i64 (mkA s1 n al).1, .int .i64 (mkA s1 n al).2]) ∧ D N b rb (mkN s1 n al) s2 w' ∧ Kept N w w' := by
  obtain ⟨xs, P, ys, R, h1, h2, rfl, rfl, hP0, hR0, hap⟩ := h.ex
  unfold mkA mkN
  have hal := h.al
  rw [alive_stX] at hal
  by_cases hok : okMake n al = false
  · rw [if_pos hok, if_pos hok]
    refine (make_bad h1 n al hok).mono fun e w' ⟨he, hw⟩ => ⟨he, ?_⟩
    subst hw; exact ⟨h, Turned.refl _ _⟩
  · rw [if_neg hok, if_neg hok]
    have hok' : okMake n al = true := by simpa using hok
    obtain ⟨hn1, hn2, hW⟩ := okMake_t hok'
    rw [alive_stX]
    by_cases hf : 4096 ≤ alive xs
    · rw [if_pos hf, if_pos hf]
      refine (make_full h1 n al hok' (by omega)).mono fun e w' ⟨he, hw⟩ => ⟨he, ?_⟩
      subst hw; exact ⟨h, Turned.refl _ _⟩
    · rw [if_neg hf, if_neg hf]
      obtain ⟨m, rfl⟩ : ∃ m : Nat, n = m := ⟨n.toNat, by omega⟩
      have hlx : (stX xs).length = xs.length := by simp [stX]
      rw [hlx] at hl ⊢
      refine (make_ok h1 m al hok' (by omega) (by omega)).mono fun e w' ⟨he, x, P', hxb, hM', ht, hn⟩ => ⟨he, ?_⟩
      have := D.prog h2 hP0 hR0 hap h.le hM' ht hn (by rw [alive_app]; omega)
      rw [show stX (xs ++ [some x]) = stX xs ++ [some ⟨m, al, fun _ => clZ⟩] by simp [stX, hxb]] at this
      simpa using this
theorem pEnd (h : D N b rb s1 s2 w) (n : Int) (n0 : -9223372036854775808 ≤ n) (n1 : n < 9223372036854775808) :
    Calls Try.prog 37 #[.pointer (some ⟨b, 0, none⟩), .int .i64 n] w fun e w' => e = .returned (.int .i64 (enA s1 n)) ∧ D N b rb (enN s1 n) s2 w' ∧ Kept N w w' := by
  obtain ⟨xs, P, ys, R, h1, h2, rfl, rfl, hP0, hR0, hap⟩ := h.ex
  unfold enA enN
  rw [look_stX]
  have hal := h.al
  rw [alive_stX] at hal
  cases hl : look xs n with
  | none =>
    refine (end_bad h1 n n0 n1 hl).mono fun e w' ⟨he, hw⟩ => ⟨he, ?_⟩
    subst hw; exact ⟨h, Turned.refl _ _⟩
  | some x =>
    obtain ⟨i, rfl, hx⟩ := look_some hl
    refine (end_ok h1 hx).mono fun e w' ⟨he, hM', ht⟩ => ⟨he, ?_⟩
    have := D.prog h2 hP0 hR0 hap h.le hM' ht (fun m hm => Or.inl hm) (Nat.le_trans (alive_set_none _ _) hal)
    rw [stX_set] at this
    simpa using this
theorem load_eq {k : Bk} {v n : Nat} {s : Bool} : loadB k v n s = if allNum k v n then some ⟨1, numV k v n s, 0⟩ else if n = 4 ∧ allPart k v = true then some ⟨2, (k.cell v).v, (k.cell v).block⟩ else none := rfl
theorem pLoad (h : D N b rb s1 s2 w) (p : Vl) (hp : VlOK p) (n : Int) (g : Bool) (n0 : -9223372036854775808 ≤ n) (n1 : n < 9223372036854775808) :
    Calls Try.prog 19 #[.pointer (some ⟨b, 0, none⟩), .agg #[.int .i64 p.kind, .int .u32 p.v, .int .i64 p.block], .int .i64 n, .bool g] w fun e w' => e = .returned (.tuple #[.agg #[.int .i64 (ldA s1 p n g).1.kind, .int .u32 (ldA s1 p n g).1.v, .int .i64 (ldA s1 p n g).1.block], .int .i64 (ldA s1 p n g).2]) ∧ Below w.heap.size w w' := by
  obtain ⟨xs, P, ys, R, h1, h2, rfl, rfl, hP0, hR0, hap⟩ := h.ex
  unfold ldA
  rw [room_stX]
  cases hr : roomX xs p n n with
  | none => exact load_none h1 p hp n g n0 n1 hr
  | some x =>
    obtain ⟨hvs, ⟨i, hpi, hx⟩, hW, _, _, hn1, hn2⟩ := roomX_some hr
    obtain ⟨m, rfl⟩ : ∃ m : Nat, n = m := ⟨n.toNat, by omega⟩
    obtain ⟨v, hv⟩ : ∃ v : Nat, p.v = v := ⟨p.v.toNat, by have := hp.v0; omega⟩
    simp only [Option.map_some, hv, Int.toNat_natCast]
    rw [load_eq]
    by_cases ha : allNum x.bk v m = true
    · rw [if_pos ha]
      have := load_num h1 p hp v m g hv x i hr hx ha
      rw [hv] at this; exact this
    · rw [if_neg ha]
      have ha' : allNum x.bk v m = false := by simpa using ha
      by_cases h4 : m = 4
      · by_cases hq : allPart x.bk v = true
        · rw [if_pos ⟨h4, hq⟩]
          have := load_ptr h1 p hp v m h4 g hv x i hr hx ha' hq
          rw [hv] at this; exact this
        · rw [if_neg (fun c => hq c.2)]
          have := load_bad h1 p hp v m h4 g hv x i hr hx ha' (by simpa using hq)
          rw [hv] at this; exact this
      · rw [if_neg (fun c => h4 c.1)]
        have := load_un h1 p hp v m g hv x i hr hx ha' h4
        rw [hv] at this; exact this
theorem After.duo {xs : List (Option Bx)} {P : Nat → Prop} {ys : List Ry} {R : Nat → Prop} (h : D N b rb (stX xs) (stR ys) w) (hR : RX w rb ys R) (hP0 : ∀ k, P k → ¬ N k) (hR0 : ∀ k, R k → ¬ N k) (hap : ∀ k, P k → ¬ R k) {i : Nat} {x : Bx} (hx : xs[i]? = some (some x)) {bk : Bk} {w' : World} (ha : After w b xs P i x bk w') :
    D N b rb ((stX xs).set i (some bk)) (stR ys) w' ∧ Kept N w w' := by
  obtain ⟨x', P', rfl, hxb, hM', ht, hn⟩ := ha
  have hal := h.al
  rw [alive_stX] at hal
  have := D.prog hR hP0 hR0 hap h.le hM' ht hn (by rw [← alive_set hx]; exact hal)
  rw [stX_set] at this
  exact this
theorem pStore (h : D N b rb s1 s2 w) (p q : Vl) (hp : VlOK p) (hq : VlOK q) (n : Int) (n0 : -9223372036854775808 ≤ n) (n1 : n < 9223372036854775808) :
    Calls Try.prog 18 #[.pointer (some ⟨b, 0, none⟩), .agg #[.int .i64 p.kind, .int .u32 p.v, .int .i64 p.block], .int .i64 n, .agg #[.int .i64 q.kind, .int .u32 q.v, .int .i64 q.block]] w fun e w' => e = .returned (.int .i64 (stA s1 p n q)) ∧ D N b rb (stN s1 p n q) s2 w' ∧ Kept N w w' := by
  obtain ⟨xs, P, ys, R, h1, h2, rfl, rfl, hP0, hR0, hap⟩ := h.ex
  unfold stA stN
  rw [room_stX]
  cases hr : roomX xs p n n with
  | none => exact (store_none h1 p q hp n n0 n1 hr).mono fun e w' ⟨he, hb⟩ => ⟨he, h.below hb, h.bw hb⟩
  | some x =>
    obtain ⟨hvs, ⟨i, hpi, hx⟩, hW, _, _, hn1, hn2⟩ := roomX_some hr
    simp only [Option.map_some, Option.isSome_some, Bool.true_and]
    cases hs : storesB q n with
    | false => exact (store_no h1 p q hp n n0 n1 x hr hs).mono fun e w' ⟨he, hb⟩ => ⟨he, h.below hb, h.bw hb⟩
    | true =>
      obtain ⟨m, rfl⟩ : ∃ m : Nat, n = m := ⟨n.toNat, by omega⟩
      obtain ⟨v, hv⟩ : ∃ v : Nat, p.v = v := ⟨p.v.toNat, by have := hp.v0; omega⟩
      refine (store_ok h1 p q hp hq v m hv x i hr hx hs).mono fun e w' ⟨he, ha⟩ => ⟨he, ?_⟩
      have := After.duo h h2 hP0 hR0 hap hx ha
      simpa [hpi, hv] using this
theorem pZero (h : D N b rb s1 s2 w) (p : Vl) (hp : VlOK p) (n : Int) (n0 : -9223372036854775808 ≤ n) (n1 : n < 9223372036854775808) :
    Calls Try.prog 42 #[.pointer (some ⟨b, 0, none⟩), .agg #[.int .i64 p.kind, .int .u32 p.v, .int .i64 p.block], .int .i64 n] w fun e w' => e = .returned (.int .i64 (zeA s1 p n)) ∧ D N b rb (zeN s1 p n) s2 w' ∧ Kept N w w' := by
  obtain ⟨xs, P, ys, R, h1, h2, rfl, rfl, hP0, hR0, hap⟩ := h.ex
  unfold zeA zeN
  rw [room_stX]
  cases hr : roomX xs p n 1 with
  | none => exact (zero_bad h1 p hp n n0 n1 hr).mono fun e w' ⟨he, hb⟩ => ⟨he, h.below hb, h.bw hb⟩
  | some x =>
    obtain ⟨hvs, ⟨i, hpi, hx⟩, hW, _, _, hn1, hn2⟩ := roomX_some hr
    obtain ⟨m, rfl⟩ : ∃ m : Nat, n = m := ⟨n.toNat, by omega⟩
    obtain ⟨v, hv⟩ : ∃ v : Nat, p.v = v := ⟨p.v.toNat, by have := hp.v0; omega⟩
    refine (zero_ok h1 p hp v m hv x i hr hx).mono fun e w' ⟨he, ha⟩ => ⟨he, ?_⟩
    have := After.duo h h2 hP0 hR0 hap hx ha
    simpa [hpi, hv] using this
theorem pCopy (h : D N b rb s1 s2 w) (p q : Vl) (hp : VlOK p) (hq : VlOK q) (n al : Int) (n0 : -9223372036854775808 ≤ n) (n1 : n < 9223372036854775808) :
    Calls Try.prog 14 #[.pointer (some ⟨b, 0, none⟩), .agg #[.int .i64 p.kind, .int .u32 p.v, .int .i64 p.block], .agg #[.int .i64 q.kind, .int .u32 q.v, .int .i64 q.block], .int .i64 n, .int .i64 al] w fun e w' => e = .returned (.int .i64 (cpA s1 p q n al)) ∧ D N b rb (cpN s1 p q n al) s2 w' ∧ Kept N w w' := by
  obtain ⟨xs, P, ys, R, h1, h2, rfl, rfl, hP0, hR0, hap⟩ := h.ex
  unfold cpA cpN cpOk
  rw [room_stX, room_stX]
  cases hr : roomX xs p n al with
  | none => exact (copy_bad h1 p q hp hq n al n0 n1 (Or.inl hr)).mono fun e w' ⟨he, hb⟩ => ⟨he, h.below hb, h.bw hb⟩
  | some x =>
    cases hr2 : roomX xs q n al with
    | none => exact (copy_bad h1 p q hp hq n al n0 n1 (Or.inr (Or.inl hr2))).mono fun e w' ⟨he, hb⟩ => ⟨he, h.below hb, h.bw hb⟩
    | some x2 =>
      simp only [Option.map_some, Option.isSome_some, Bool.true_and]
      cases hc : clashB p q n with
      | true => exact (copy_bad h1 p q hp hq n al n0 n1 (Or.inr (Or.inr hc))).mono fun e w' ⟨he, hb⟩ => ⟨he, h.below hb, h.bw hb⟩
      | false =>
        obtain ⟨hvs, ⟨i, hpi, hx⟩, hW, _, _, hn1, hn2⟩ := roomX_some hr
        obtain ⟨hvs2, ⟨i2, hpi2, hx2⟩, _⟩ := roomX_some hr2
        obtain ⟨m, rfl⟩ : ∃ m : Nat, n = m := ⟨n.toNat, by omega⟩
        obtain ⟨v, hv⟩ : ∃ v : Nat, p.v = v := ⟨p.v.toNat, by have := hp.v0; omega⟩
        obtain ⟨v2, hv2⟩ : ∃ v : Nat, q.v = v := ⟨q.v.toNat, by have := hq.v0; omega⟩
        refine (copy_ok h1 p q hp hq m v v2 al i i2 x x2 hv hv2 hr hr2 hx hx2 hc).mono fun e w' ⟨he, ha⟩ => ⟨he, ?_⟩
        have := After.duo h h2 hP0 hR0 hap hx ha
        simpa [hpi, hv, hpi2, hv2] using this
theorem pTruth (h : D N b rb s1 s2 w) (p : Vl) (hp : VlOK p) :
    Calls Try.prog 20 #[.pointer (some ⟨b, 0, none⟩), .agg #[.int .i64 p.kind, .int .u32 p.v, .int .i64 p.block]] w fun e w' => e = .returned (.tuple #[.bool (trA s1 p).1, .int .i64 (trA s1 p).2]) ∧ Below w.heap.size w w' := by
  obtain ⟨xs, P, ys, R, h1, h2, rfl, rfl, hP0, hR0, hap⟩ := h.ex
  have hus := us_stX xs p
  unfold usS at hus
  unfold trA
  by_cases hk : p.kind = 1
  · rw [if_pos hk]
    have hu : usX xs p = true := by rw [hus]; simp [hk]
    by_cases hv : p.v = 0
    · have := truth_num0 h1 p hp hu hk hv
      simpa [hv] using this
    · have := truth_num1 h1 p hp hu hk hv
      simpa [hv] using this
  · rw [if_neg hk]
    cases hg : goodS (stX xs) p with
    | none =>
      have hu : usX xs p = false := by rw [hus, hg]; simp [hk]
      exact truth_no h1 p hp hu
    | some k =>
      have hu : usX xs p = true := by rw [hus, hg]; simp
      exact truth_ptr h1 p hp hu (goodS_some hg).1
theorem pCells_bad (h : D N b rb s1 s2 w) (n : Int) (n0 : -9223372036854775808 ≤ n) (n1 : n < 9223372036854775808) (hl : look s1 n = none) :
    Calls Try.prog 13 #[.pointer (some ⟨b, 0, none⟩), .int .i64 n] w fun e w' => e = .returned (.tuple #[.slice none 0 0, .int .i64 2]) ∧ w' = w := by
  obtain ⟨xs, P, ys, R, h1, h2, rfl, rfl, hP0, hR0, hap⟩ := h.ex
  rw [look_stX] at hl
  exact cells_bad h1 n n0 n1 (by simpa using hl)
theorem pCells_ok (h : D N b rb s1 s2 w) (n : Int) (k : Bk) (hl : look s1 n = some k) :
    Calls Try.prog 13 #[.pointer (some ⟨b, 0, none⟩), .int .i64 n] w fun e w' => ∃ g cap, e = .returned (.tuple #[.slice (some ⟨g, 0, none⟩) k.size cap, .int .i64 0]) ∧ CellsAt w' g k.size k.cell ∧ w.heap.size ≤ g ∧ Below w.heap.size w w' := by
  obtain ⟨xs, P, ys, R, h1, h2, rfl, rfl, hP0, hR0, hap⟩ := h.ex
  rw [look_stX] at hl
  cases hx : look xs n with
  | none => rw [hx] at hl; cases hl
  | some x =>
    rw [hx] at hl
    simp at hl
    subst hl
    obtain ⟨i, rfl, hi⟩ := look_some hx
    exact cells_ok h1 hi
end
end Go.Proofs.Ytigiahcfcglacaa
namespace Go.Proofs.Ytigiahcfcglacaa
open Go.RowKit Go.Maps
set_option linter.unusedVariables false
set_option maxRecDepth 100000
section
variable {N : Nat → Prop} {b rb : Nat} {s1 s2 : St} {w : World}
theorem rMake (h : D N b rb s1 s2 w) (n al : Int) (n0 : -9223372036854775808 ≤ n) (hl : s2.length + 1 < 3518437208883) :
    Calls Try.prog 36 #[.pointer (some ⟨rb, 0, none⟩), .int .i64 n, .int .i64 al] w fun e w' => e = .returned (.tuple #[.int .i64 (mkA s2 n al).1, .int .i64 (mkA s2 n al).2]) ∧ D N b rb s1 (mkN s2 n al) w' ∧ Kept N w w' := by
  obtain ⟨xs, P, ys, R, h1, h2, rfl, rfl, hP0, hR0, hap⟩ := h.ex
  unfold mkA mkN
  by_cases hok : okMake n al = false
  · rw [if_pos hok, if_pos hok]
    refine (makeR_bad n al hok).mono fun e w' ⟨he, hw⟩ => ⟨he, ?_⟩
    subst hw; exact ⟨h, Turned.refl _ _⟩
  · rw [if_neg hok, if_neg hok]
    have hok' : okMake n al = true := by simpa using hok
    obtain ⟨hn1, hn2, hW⟩ := okMake_t hok'
    by_cases hf : 4096 ≤ alive (stR ys)
    · rw [if_pos hf, if_pos hf]
      refine (makeR_full h2 n al hok' hf).mono fun e w' ⟨he, hw⟩ => ⟨he, ?_⟩
      subst hw; exact ⟨h, Turned.refl _ _⟩
    · rw [if_neg hf, if_neg hf]
      obtain ⟨m, rfl⟩ : ∃ m : Nat, n = m := ⟨n.toNat, by omega⟩
      have hlx : (stR ys).length = ys.length := by simp [stR]
      rw [hlx] at hl ⊢
      refine (makeR_ok h2 m al hok' (by omega) (by omega)).mono fun e w' ⟨he, y, R', hyb, hR', ht, hn⟩ => ⟨he, ?_⟩
      have := D.ref h1 hP0 hR0 hap h.le hR' ht hn h.al
      rw [show stR (ys ++ [y]) = stR ys ++ [some ⟨m, al, fun _ => clZ⟩] by simp [stR, hyb]] at this
      simpa using this
theorem rEnd (h : D N b rb s1 s2 w) (n : Int) (n0 : -9223372036854775808 ≤ n) (n1 : n < 9223372036854775808) :
    Calls Try.prog 38 #[.pointer (some ⟨rb, 0, none⟩), .int .i64 n] w fun e w' => e = .returned (.int .i64 (enA s2 n)) ∧ D N b rb s1 (enN s2 n) w' ∧ Kept N w w' := by
  obtain ⟨xs, P, ys, R, h1, h2, rfl, rfl, hP0, hR0, hap⟩ := h.ex
  unfold enA enN
  cases hl : look (stR ys) n with
  | none =>
    refine (endR_bad h2 n n0 n1 hl).mono fun e w' ⟨he, hw⟩ => ⟨he, ?_⟩
    subst hw; exact ⟨h, Turned.refl _ _⟩
  | some k =>
    obtain ⟨i, rfl, hx⟩ := look_some hl
    obtain ⟨y, hy, hyk⟩ := st_at hx
    refine (endR_ok h2 hy hyk).mono fun e w' ⟨he, hR', ht⟩ => ⟨he, ?_⟩
    have := D.ref h1 hP0 hR0 hap h.le hR' ht (fun m hm => Or.inl hm) h.al
    rw [stR_set] at this
    simpa using this
theorem rLoad (h : D N b rb s1 s2 w) (p : Vl) (hp : VlOK p) (n : Int) (g : Bool) (n0 : -9223372036854775808 ≤ n) (n1 : n < 9223372036854775808) :
    Calls Try.prog 39 #[.pointer (some ⟨rb, 0, none⟩), .agg #[.int .i64 p.kind, .int .u32 p.v, .int .i64 p.block], .int .i64 n, .bool g] w fun e w' => e = .returned (.tuple #[.agg #[.int .i64 (ldA s2 p n g).1.kind, .int .u32 (ldA s2 p n g).1.v, .int .i64 (ldA s2 p n g).1.block], .int .i64 (ldA s2 p n g).2]) ∧ Below w.heap.size w w' := by
  obtain ⟨xs, P, ys, R, h1, h2, rfl, rfl, hP0, hR0, hap⟩ := h.ex
  unfold ldA
  cases hr : roomS (stR ys) p n n with
  | none => exact loadR_none h2 p hp n g n0 n1 hr
  | some k =>
    obtain ⟨hvs, ⟨i, hpi, hx⟩, hW, _, _, hn1, hn2⟩ := roomS_some hr
    obtain ⟨y, hy, hyk⟩ := st_at hx
    obtain ⟨m, rfl⟩ : ∃ m : Nat, n = m := ⟨n.toNat, by omega⟩
    obtain ⟨v, hv⟩ : ∃ v : Nat, p.v = v := ⟨p.v.toNat, by have := hp.v0; omega⟩
    refine (loadR_any h2 p hp v m g hv k i y hr hpi hy hyk).mono fun e w' ⟨hb, hc⟩ => ⟨?_, hb⟩
    simp only [hv, Int.toNat_natCast]
    rw [load_eq]
    rcases hc with ⟨c1, rfl⟩ | ⟨c1, h4, c2, rfl⟩ | ⟨c1, c2, rfl⟩
    · rw [if_pos (allNum_t.2 (bn_not c1))]; rfl
    · have ha : ¬ allNum k v m = true := fun hh => c1 (bn_all (allNum_t.1 hh)).1
      subst h4
      rw [pj_all] at c2
      rw [if_neg ha, if_pos ⟨rfl, c2⟩]
    · have ha : ¬ allNum k v m = true := fun hh => c1 (bn_all (allNum_t.1 hh)).1
      rw [if_neg ha]
      rw [if_neg (fun hh => by
        obtain ⟨h4, hp⟩ := hh
        subst h4
        rw [pj_all, hp] at c2
        simp at c2)]
      rfl
theorem AfterR.duo {xs : List (Option Bx)} {P : Nat → Prop} {ys : List Ry} {R : Nat → Prop} (h : D N b rb (stX xs) (stR ys) w) (hM : MemX w b xs P) (hP0 : ∀ k, P k → ¬ N k) (hR0 : ∀ k, R k → ¬ N k) (hap : ∀ k, P k → ¬ R k) {i : Nat} {y : Ry} {bk : Bk} {w' : World} (ha : AfterR w rb ys R i y bk w') :
    D N b rb (stX xs) ((stR ys).set i (some bk)) w' ∧ Kept N w w' := by
  have := D.ref hM hP0 hR0 hap h.le ha.1 ha.2 (fun m hm => Or.inl hm) h.al
  rw [stR_set] at this
  exact this
theorem rStore (h : D N b rb s1 s2 w) (p q : Vl) (hp : VlOK p) (hq : VlOK q) (n : Int) (n0 : -9223372036854775808 ≤ n) (n1 : n < 9223372036854775808) :
    Calls Try.prog 40 #[.pointer (some ⟨rb, 0, none⟩), .agg #[.int .i64 p.kind, .int .u32 p.v, .int .i64 p.block], .int .i64 n, .agg #[.int .i64 q.kind, .int .u32 q.v, .int .i64 q.block]] w fun e w' => e = .returned (.int .i64 (stA s2 p n q)) ∧ D N b rb s1 (stN s2 p n q) w' ∧ Kept N w w' := by
  obtain ⟨xs, P, ys, R, h1, h2, rfl, rfl, hP0, hR0, hap⟩ := h.ex
  unfold stA stN
  cases hr : roomS (stR ys) p n n with
  | none => exact (storeR_none h2 p q hp n n0 n1 hr).mono fun e w' ⟨he, hb⟩ => ⟨he, h.below hb, h.bw hb⟩
  | some k =>
    obtain ⟨hvs, ⟨i, hpi, hx⟩, hW, _, _, hn1, hn2⟩ := roomS_some hr
    obtain ⟨y, hy, hyk⟩ := st_at hx
    simp only [Option.isSome_some, Bool.true_and]
    cases hs : storesB q n with
    | false => exact (storeR_no h2 p q hp n n0 n1 k hr hs).mono fun e w' ⟨he, hb⟩ => ⟨he, h.below hb, h.bw hb⟩
    | true =>
      obtain ⟨m, rfl⟩ : ∃ m : Nat, n = m := ⟨n.toNat, by omega⟩
      obtain ⟨v, hv⟩ : ∃ v : Nat, p.v = v := ⟨p.v.toNat, by have := hp.v0; omega⟩
      have hs' : q.kind = 1 ∨ q.kind = 2 ∧ m = 4 := by unfold storesB at hs; simp at hs; omega
      rcases hs' with hk | ⟨hk, h4⟩
      · refine (storeR_num h2 p q hp hq v m hv k i y hr hpi hy hyk hk).mono fun e w' ⟨he, ha⟩ => ⟨he, ?_⟩
        have := AfterR.duo h h1 hP0 hR0 hap ha
        simpa [hpi, hv] using this
      · refine (storeR_ptr h2 p q hp hq v m hv k i y hr hpi hy hyk hk h4).mono fun e w' ⟨he, ha⟩ => ⟨he, ?_⟩
        have := AfterR.duo h h1 hP0 hR0 hap ha
        simpa [hpi, hv] using this
theorem rZero (h : D N b rb s1 s2 w) (p : Vl) (hp : VlOK p) (n : Int) (n0 : -9223372036854775808 ≤ n) (n1 : n < 9223372036854775808) :
    Calls Try.prog 43 #[.pointer (some ⟨rb, 0, none⟩), .agg #[.int .i64 p.kind, .int .u32 p.v, .int .i64 p.block], .int .i64 n] w fun e w' => e = .returned (.int .i64 (zeA s2 p n)) ∧ D N b rb s1 (zeN s2 p n) w' ∧ Kept N w w' := by
  obtain ⟨xs, P, ys, R, h1, h2, rfl, rfl, hP0, hR0, hap⟩ := h.ex
  unfold zeA zeN
  cases hr : roomS (stR ys) p n 1 with
  | none => exact (zeroR_bad h2 p hp n n0 n1 hr).mono fun e w' ⟨he, hb⟩ => ⟨he, h.below hb, h.bw hb⟩
  | some k =>
    obtain ⟨hvs, ⟨i, hpi, hx⟩, hW, _, _, hn1, hn2⟩ := roomS_some hr
    obtain ⟨y, hy, hyk⟩ := st_at hx
    obtain ⟨m, rfl⟩ : ∃ m : Nat, n = m := ⟨n.toNat, by omega⟩
    obtain ⟨v, hv⟩ : ∃ v : Nat, p.v = v := ⟨p.v.toNat, by have := hp.v0; omega⟩
    refine (zeroR_ok h2 p hp v m hv k i y hr hpi hy hyk).mono fun e w' ⟨he, ha⟩ => ⟨he, ?_⟩
    have := AfterR.duo h h1 hP0 hR0 hap ha
    simpa [hpi, hv] using this
theorem rCopy (h : D N b rb s1 s2 w) (p q : Vl) (hp : VlOK p) (hq : VlOK q) (n al : Int) (n0 : -9223372036854775808 ≤ n) (n1 : n < 9223372036854775808) :
    Calls Try.prog 41 #[.pointer (some ⟨rb, 0, none⟩), .agg #[.int .i64 p.kind, .int .u32 p.v, .int .i64 p.block], .agg #[.int .i64 q.kind, .int .u32 q.v, .int .i64 q.block], .int .i64 n, .int .i64 al] w fun e w' => e = .returned (.int .i64 (cpA s2 p q n al)) ∧ D N b rb s1 (cpN s2 p q n al) w' ∧ Kept N w w' := by
  obtain ⟨xs, P, ys, R, h1, h2, rfl, rfl, hP0, hR0, hap⟩ := h.ex
  unfold cpA cpN cpOk
  cases hr : roomS (stR ys) p n al with
  | none => exact (copyR_1 h2 p q hp hq n al n0 n1 hr).mono fun e w' ⟨he, hb⟩ => ⟨he, h.below hb, h.bw hb⟩
  | some k =>
    cases hr2 : roomS (stR ys) q n al with
    | none => exact (copyR_2 h2 p q hp hq n al n0 n1 k hr hr2).mono fun e w' ⟨he, hb⟩ => ⟨he, h.below hb, h.bw hb⟩
    | some k2 =>
      obtain ⟨hvs, ⟨i, hpi, hx⟩, hW, _, _, hn1, hn2⟩ := roomS_some hr
      obtain ⟨hvs2, ⟨i2, hpi2, hx2⟩, _⟩ := roomS_some hr2
      obtain ⟨y, hy, hyk⟩ := st_at hx
      obtain ⟨y2, hy2, hyk2⟩ := st_at hx2
      simp only [Option.isSome_some, Bool.true_and]
      cases hc : clashB p q n with
      | true => exact (copyR_3 h2 p q hp hq n al k k2 (h.ok2.sz i k hx).2.1 hr hr2 hc n0 n1).mono fun e w' ⟨he, hb⟩ => ⟨he, h.below hb, h.bw hb⟩
      | false =>
        obtain ⟨m, rfl⟩ : ∃ m : Nat, n = m := ⟨n.toNat, by omega⟩
        obtain ⟨v, hv⟩ : ∃ v : Nat, p.v = v := ⟨p.v.toNat, by have := hp.v0; omega⟩
        obtain ⟨v2, hv2⟩ : ∃ v : Nat, q.v = v := ⟨q.v.toNat, by have := hq.v0; omega⟩
        refine (copyR_ok h2 p q hp hq m v v2 al i i2 y y2 k k2 hv hv2 hr hr2 hpi hpi2 hy hy2 hyk hyk2 hc).mono fun e w' ⟨he, ha⟩ => ⟨he, ?_⟩
        have := AfterR.duo h h1 hP0 hR0 hap ha
        simpa [hpi, hv, hpi2, hv2] using this
theorem rTruth (h : D N b rb s1 s2 w) (p : Vl) (hp : VlOK p) :
    Calls Try.prog 45 #[.pointer (some ⟨rb, 0, none⟩), .agg #[.int .i64 p.kind, .int .u32 p.v, .int .i64 p.block]] w fun e w' => e = .returned (.tuple #[.bool (trA s2 p).1, .int .i64 (trA s2 p).2]) ∧ Below w.heap.size w w' := by
  obtain ⟨xs, P, ys, R, h1, h2, rfl, rfl, hP0, hR0, hap⟩ := h.ex
  unfold trA
  by_cases hk : p.kind = 1
  · rw [if_pos hk]; exact truthR_num p hk
  · rw [if_neg hk]
    have := truthR_ptr h2 p hp hk
    cases hg : (goodS (stR ys) p).isSome <;> rw [hg] at this <;> exact this
theorem rCells_bad (h : D N b rb s1 s2 w) (n : Int) (n0 : -9223372036854775808 ≤ n) (n1 : n < 9223372036854775808) (hl : look s2 n = none) :
    Calls Try.prog 46 #[.pointer (some ⟨rb, 0, none⟩), .int .i64 n] w fun e w' => e = .returned (.tuple #[.slice none 0 0, .int .i64 2]) ∧ w' = w := by
  obtain ⟨xs, P, ys, R, h1, h2, rfl, rfl, hP0, hR0, hap⟩ := h.ex
  exact cellsR_bad h2 n n0 n1 hl
theorem rCells_ok (h : D N b rb s1 s2 w) (n : Int) (k : Bk) (hl : look s2 n = some k) :
    Calls Try.prog 46 #[.pointer (some ⟨rb, 0, none⟩), .int .i64 n] w fun e w' => ∃ g cap, e = .returned (.tuple #[.slice (some ⟨g, 0, none⟩) k.size cap, .int .i64 0]) ∧ CellsAt w' g k.size k.cell ∧ w.heap.size ≤ g ∧ Below w.heap.size w w' := by
  obtain ⟨xs, P, ys, R, h1, h2, rfl, rfl, hP0, hR0, hap⟩ := h.ex
  obtain ⟨i, rfl, hx⟩ := look_some hl
  obtain ⟨y, hy, hyk⟩ := st_at hx
  exact cellsR_ok h2 hy hyk
end
end Go.Proofs.Ytigiahcfcglacaa
namespace Go.Proofs.Ytigiahcfcglacaa
open Go.RowKit Go.Maps
set_option linter.unusedVariables false
set_option maxRecDepth 100000
/-- The program's Bin answers r and st at every memory that holds s. -/
def PBin (s : St) (op : Int) (p q r : Vl) (st : Int) : Prop := ∀ (N : Nat → Prop) (b rb : Nat) (s2 : St) (w : World), D N b rb s s2 w →
  Calls Try.prog 10 #[.pointer (some ⟨b, 0, none⟩), .int .i64 op, .agg #[.int .i64 p.kind, .int .u32 p.v, .int .i64 p.block], .agg #[.int .i64 q.kind, .int .u32 q.v, .int .i64 q.block]] w fun e w' => e = .returned (.tuple #[.agg #[.int .i64 r.kind, .int .u32 r.v, .int .i64 r.block], .int .i64 st]) ∧ Below w.heap.size w w'
def RBin (s : St) (op : Int) (p q r : Vl) (st : Int) : Prop := ∀ (N : Nat → Prop) (b rb : Nat) (s1 : St) (w : World), D N b rb s1 s w →
  Calls Try.prog 44 #[.pointer (some ⟨rb, 0, none⟩), .int .i64 op, .agg #[.int .i64 p.kind, .int .u32 p.v, .int .i64 p.block], .agg #[.int .i64 q.kind, .int .u32 q.v, .int .i64 q.block]] w fun e w' => e = .returned (.tuple #[.agg #[.int .i64 r.kind, .int .u32 r.v, .int .i64 r.block], .int .i64 st]) ∧ Below w.heap.size w w'
/-- Does a good pointer point to its block's end? -/
def endsB (s : St) (p : Vl) : Bool := (goodS s p).any (fun k => decide (p.v = k.size))
theorem endsB_eq {s : St} {p : Vl} {k : Bk} (h : goodS s p = some k) : endsB s p = decide (p.v = k.size) := by unfold endsB; rw [h]; rfl
/-- What two good pointers give. -/
def ppA (s : St) (op : Int) (p q : Vl) : Vl × Int :=
  if p.block = q.block then
    (if op = 2 then (⟨1, (p.v - q.v) % 4294967296, 0⟩, 0) else if op = 14 then (⟨1, if p.v = q.v then 1 else 0, 0⟩, 0) else if op = 15 then (⟨1, if p.v = q.v then 0 else 1, 0⟩, 0)
     else if op = 16 ∨ op = 17 then (⟨1, if p.v < q.v then 1 else 0, 0⟩, 0) else if op = 18 ∨ op = 19 then (⟨1, if p.v ≤ q.v then 1 else 0, 0⟩, 0) else (vlZ, 3))
  else if op = 14 ∨ op = 15 then (bif endsB s p || endsB s q then (vlZ, 3) else (⟨1, if op = 15 then 1 else 0, 0⟩, 0)) else (vlZ, 3)
theorem xor_top {a : Int} (a0 : 0 ≤ a) (a1 : a ≤ 16384) : bits .xor .u32 a 2147483648 = a + 2147483648 := by
  rw [W.turned a a0 (by omega)]
  unfold wrap32
  omega
theorem gX {xs : List (Option Bx)} {p : Vl} {k : Bk} (h : goodS (stX xs) p = some k) : ∃ x, goodX xs p = some x ∧ x.bk = k := by
  rw [good_stX] at h
  cases hx : goodX xs p with
  | none => rw [hx] at h; cases h
  | some x => rw [hx] at h; simp at h; exact ⟨x, rfl, h⟩
theorem gSz {s : St} (hs : SOK s) {p : Vl} {k : Bk} (h : goodS s p = some k) : p.kind = 2 ∧ p.v ≤ k.size ∧ k.size ≤ 16384 := by
  obtain ⟨h1, h2, i, h3, h4⟩ := goodS_some h
  exact ⟨h1, h2, (hs.sz i k h4).2.1⟩
theorem usS_t {s : St} {p : Vl} {k : Bk} (h : goodS s p = some k) : usS s p = true := by unfold usS; rw [h]; simp
theorem usS_n {s : St} {p : Vl} (h : p.kind = 1) : usS s p = true := by unfold usS; simp [h]
theorem good_num {s : St} {p : Vl} (h : p.kind = 1) : goodS s p = none := by unfold goodS goodG; rw [if_neg (by omega)]
theorem ofn {v : Int} {op a c : Int} (h : ∀ w, Calls Try.prog 52 #[.int .i64 op, .int .u32 a, .int .u32 c] w fun e w' => e = .returned (.tuple #[.int .u32 v, .bool true]) ∧ w' = w) : ∀ Y, Calls Try.prog 25 #[.int .i64 op, .int .u32 a, .int .u32 c] Y fun e w' => e = .returned (.tuple #[.agg #[.int .i64 (⟨1, v, 0⟩ : Vl).kind, .int .u32 (⟨1, v, 0⟩ : Vl).v, .int .i64 (⟨1, v, 0⟩ : Vl).block], .int .i64 0]) ∧ Below Y.heap.size Y w' := fun Y => ofNum_ok op a c v h Y
theorem pbin_pp {s : St} {p q : Vl} {kp kq : Bk} (op : Int) (hp : VlOK p) (hq : VlOK q) (hgp : goodS s p = some kp) (hgq : goodS s q = some kq) (ho1 : 1 ≤ op) (ho2 : op ≤ 19) : PBin s op p q (ppA s op p q).1 (ppA s op p q).2 := by
  intro N b rb s2 w h
  have hs := h.ok1
  obtain ⟨p2, pv, pm⟩ := gSz hs hgp
  obtain ⟨q2, qv, qm⟩ := gSz hs hgq
  obtain ⟨xs, P, ys, R, h1, h2, rfl, rfl, hP0, hR0, hap⟩ := h.ex
  obtain ⟨x, hx, rfl⟩ := gX hgp
  obtain ⟨y, hy, rfl⟩ := gX hgq
  have a0 := hp.v0; have a1 := hp.v1; have c0 := hq.v0; have c1 := hq.v1
  refine bin_pp h1 p q op hp hq ho1 ho2 (by rw [us_stX]; exact usS_t hgp) (by rw [us_stX]; exact usS_t hgq) p2 q2 _ _ (fun Y hY => ?_)
  unfold ppA
  by_cases hbl : p.block = q.block
  · rw [if_pos hbl]
    by_cases e2 : op = 2
    · rw [if_pos e2]
      refine pp_2 p q op hbl e2 _ _ (ofn ?_)
      subst e2
      intro Z
      have := W.bin_sub p.v q.v Z a0 a1 c0 c1
      rw [show p.v + -q.v = p.v - q.v by omega] at this
      exact this
    rw [if_neg e2]
    by_cases e14 : op = 14
    · rw [if_pos e14]
      refine pp_14 p q op hbl e14 _ _ (ofn ?_)
      subst e14
      exact fun Z => W.bin_eq p.v q.v Z a0 a1 c0 c1
    rw [if_neg e14]
    by_cases e15 : op = 15
    · rw [if_pos e15]
      refine pp_15 p q op hbl e15 _ _ (ofn ?_)
      subst e15
      exact fun Z => W.bin_ne p.v q.v Z a0 a1 c0 c1
    rw [if_neg e15]
    by_cases e16 : op = 16
    · rw [if_pos (Or.inl e16)]
      refine pp_16 p q op hbl e16 _ _ (ofn ?_)
      subst e16
      intro Z
      have := W.bin_lts p.v q.v Z a0 a1 c0 c1
      rw [xor_top a0 (by omega), xor_top c0 (by omega)] at this
      have hif : (if p.v + 2147483648 < q.v + 2147483648 then (1 : Int) else 0) = if p.v < q.v then 1 else 0 := by split <;> split <;> omega
      rw [hif] at this
      exact this
    by_cases e17 : op = 17
    · rw [if_pos (Or.inr e17)]
      refine pp_17 p q op hbl e17 _ _ (ofn ?_)
      subst e17
      exact fun Z => W.bin_ltu p.v q.v Z a0 a1 c0 c1
    rw [if_neg (by omega)]
    by_cases e18 : op = 18
    · rw [if_pos (Or.inl e18)]
      refine pp_18 p q op hbl e18 _ _ (ofn ?_)
      subst e18
      intro Z
      have := W.bin_les p.v q.v Z a0 a1 c0 c1
      rw [xor_top a0 (by omega), xor_top c0 (by omega)] at this
      have hif : (if p.v + 2147483648 ≤ q.v + 2147483648 then (1 : Int) else 0) = if p.v ≤ q.v then 1 else 0 := by split <;> split <;> omega
      rw [hif] at this
      exact this
    by_cases e19 : op = 19
    · rw [if_pos (Or.inr e19)]
      refine pp_19 p q op hbl e19 _ _ (ofn ?_)
      subst e19
      exact fun Z => W.bin_leu p.v q.v Z a0 a1 c0 c1
    rw [if_neg (by omega)]
    exact pp_no p q op hbl e2 (by omega)
  · rw [if_neg hbl]
    have E1 := endsB_eq hgp
    have E2 := endsB_eq hgq
    have cE1 : ∀ Z, Below Y.heap.size Y Z → Calls Try.prog 54 #[.pointer (some ⟨b, 0, none⟩), .agg #[.int .i64 p.kind, .int .u32 p.v, .int .i64 p.block]] Z fun e w' => e = .returned (.bool (endsB (stX xs) p)) ∧ Below Z.heap.size Z w' := fun Z hZ => by rw [E1]; exact atEnd_c ((h1.keptB hY).keptB hZ) p hp x hx
    have cE2 : ∀ Z, Below Y.heap.size Y Z → Calls Try.prog 54 #[.pointer (some ⟨b, 0, none⟩), .agg #[.int .i64 q.kind, .int .u32 q.v, .int .i64 q.block]] Z fun e w' => e = .returned (.bool (endsB (stX xs) q)) ∧ Below Z.heap.size Z w' := fun Z hZ => by rw [E2]; exact atEnd_c ((h1.keptB hY).keptB hZ) q hq y hy
    cases d1 : endsB (stX xs) p with
    | true =>
      rw [d1] at cE1
      have := pp_end1 (w := Y) (b := b) p q op hbl cE1
      simp only [Bool.true_or, cond_true, ite_self]
      exact this
    | false =>
      rw [d1] at cE1
      cases d2 : endsB (stX xs) q with
      | true =>
        rw [d2] at cE2
        have := pp_end2 (w := Y) (b := b) p q op hbl cE1 cE2
        simp only [Bool.false_or, cond_true, ite_self]
        exact this
      | false =>
        rw [d2] at cE2
        simp only [Bool.false_or, cond_false]
        by_cases e14 : op = 14
        · rw [if_pos (Or.inl e14), if_neg (by omega)]
          exact pp_un p q op hbl cE1 cE2 ⟨1, 0, 0⟩ 0 (unlike_eq op e14)
        by_cases e15 : op = 15
        · rw [if_pos (Or.inr e15), if_pos e15]
          exact pp_un p q op hbl cE1 cE2 ⟨1, 1, 0⟩ 0 (unlike_ne op e15)
        rw [if_neg (by omega)]
        exact pp_un p q op hbl cE1 cE2 vlZ 3 (unlike_no op e14 e15)
theorem rbin_pp {s : St} {p q : Vl} {kp kq : Bk} (op : Int) (hp : VlOK p) (hq : VlOK q) (hgp : goodS s p = some kp) (hgq : goodS s q = some kq) (ho1 : 1 ≤ op) (ho2 : op ≤ 19) : RBin s op p q (ppA s op p q).1 (ppA s op p q).2 := by
  intro N b rb s1 w h
  have hs := h.ok2
  obtain ⟨p2, pv, pm⟩ := gSz hs hgp
  obtain ⟨q2, qv, qm⟩ := gSz hs hgq
  obtain ⟨xs, P, ys, R, h1, h2, rfl, rfl, hP0, hR0, hap⟩ := h.ex
  refine rb_pp h2 p q op hp hq (by rw [hgp]; rfl) (by rw [hgq]; rfl) (by omega) (by omega) ho1 ho2 _ _ (fun Y hY => ?_)
  unfold ppA
  by_cases hbl : p.block = q.block
  · rw [if_pos hbl]
    by_cases e2 : op = 2
    · rw [if_pos e2]; exact rp_sub p q op e2 hbl
    rw [if_neg e2]
    by_cases e14 : op = 14
    · rw [if_pos e14]
      by_cases hv : p.v = q.v
      · rw [if_pos hv]; exact rp_eq_14_s p q op e14 hbl hv
      · rw [if_neg hv]; exact rp_eq_14_d p q op e14 hbl hv
    rw [if_neg e14]
    by_cases e15 : op = 15
    · rw [if_pos e15]
      by_cases hv : p.v = q.v
      · rw [if_pos hv]; exact rp_eq_15_s p q op e15 hbl hv
      · rw [if_neg hv]; exact rp_eq_15_d p q op e15 hbl hv
    rw [if_neg e15]
    by_cases e16 : op = 16
    · rw [if_pos (Or.inl e16)]
      by_cases hv : p.v < q.v
      · rw [if_pos hv]; exact rp_16_y p q op e16 hbl hv
      · rw [if_neg hv]; exact rp_16_n p q op e16 hbl hv
    by_cases e17 : op = 17
    · rw [if_pos (Or.inr e17)]
      by_cases hv : p.v < q.v
      · rw [if_pos hv]; exact rp_17_y p q op e17 hbl hv
      · rw [if_neg hv]; exact rp_17_n p q op e17 hbl hv
    rw [if_neg (by omega)]
    by_cases e18 : op = 18
    · rw [if_pos (Or.inl e18)]
      by_cases hv : p.v ≤ q.v
      · rw [if_pos hv]; exact rp_18_y p q op e18 hbl hv
      · rw [if_neg hv]; exact rp_18_n p q op e18 hbl hv
    by_cases e19 : op = 19
    · rw [if_pos (Or.inr e19)]
      by_cases hv : p.v ≤ q.v
      · rw [if_pos hv]; exact rp_19_y p q op e19 hbl hv
      · rw [if_neg hv]; exact rp_19_n p q op e19 hbl hv
    rw [if_neg (by omega)]
    exact rp_other p q op e2 (by omega)
  · rw [if_neg hbl]
    have E1 := endsB_eq hgp
    have E2 := endsB_eq hgq
    have cE1 : ∀ Z, Below Y.heap.size Y Z → Calls Try.prog 82 #[.pointer (some ⟨rb, 0, none⟩), .agg #[.int .i64 p.kind, .int .u32 p.v, .int .i64 p.block]] Z fun e w' => e = .returned (.bool (endsB (stR ys) p)) ∧ Below Z.heap.size Z w' := fun Z hZ => by rw [E1]; exact endsR_c ((h2.keptB hY).keptB hZ) p hp kp hgp
    have cE2 : ∀ Z, Below Y.heap.size Y Z → Calls Try.prog 82 #[.pointer (some ⟨rb, 0, none⟩), .agg #[.int .i64 q.kind, .int .u32 q.v, .int .i64 q.block]] Z fun e w' => e = .returned (.bool (endsB (stR ys) q)) ∧ Below Z.heap.size Z w' := fun Z hZ => by rw [E2]; exact endsR_c ((h2.keptB hY).keptB hZ) q hq kq hgq
    by_cases e1415 : op = 14 ∨ op = 15
    · rw [if_pos e1415]
      cases d1 : endsB (stR ys) p with
      | true =>
        rw [d1] at cE1
        simp only [Bool.true_or, cond_true]
        rcases e1415 with e | e
        · exact rp_end1_14 (w := Y) p q op e hbl cE1
        · exact rp_end1_15 (w := Y) p q op e hbl cE1
      | false =>
        rw [d1] at cE1
        cases d2 : endsB (stR ys) q with
        | true =>
          rw [d2] at cE2
          simp only [Bool.false_or, cond_true]
          rcases e1415 with e | e
          · exact rp_end2_14 (w := Y) p q op e hbl cE1 cE2
          · exact rp_end2_15 (w := Y) p q op e hbl cE1 cE2
        | false =>
          rw [d2] at cE2
          simp only [Bool.false_or, cond_false]
          rcases e1415 with e | e
          · rw [if_neg (by omega)]; exact rp_un_14 (w := Y) p q op e hbl cE1 cE2
          · rw [if_pos e]; exact rp_un_15 (w := Y) p q op e hbl cE1 cE2
    · rw [if_neg e1415]
      by_cases e2 : op = 2
      · exact rp_no_2 p q op e2 hbl
      by_cases e16 : op = 16
      · exact rp_no_16 p q op e16 hbl
      by_cases e17 : op = 17
      · exact rp_no_17 p q op e17 hbl
      by_cases e18 : op = 18
      · exact rp_no_18 p q op e18 hbl
      by_cases e19 : op = 19
      · exact rp_no_19 p q op e19 hbl
      exact rp_other p q op e2 (by omega)
/-- A pointer moved. -/
def mvA (s : St) (p : Vl) (by_ : Int) : Vl × Int := match goodS s p with
  | none => (vlZ, 3)
  | some k => if p.v + by_ < 0 ∨ (k.size : Int) < p.v + by_ then (vlZ, 3) else (⟨2, p.v + by_, p.block⟩, 0)
/-- A pointer and a number. -/
def pnA (s : St) (op : Int) (p : Vl) (n : Int) : Vl × Int :=
  if op = 1 then mvA s p (wrap32 n) else if op = 2 then mvA s p (-(wrap32 n)) else if n = 0 ∧ op = 14 then (⟨1, 0, 0⟩, 0) else if n = 0 ∧ op = 15 then (⟨1, 1, 0⟩, 0) else (vlZ, 3)
theorem wrap32_bd {n : Int} (n0 : 0 ≤ n) (n1 : n < 4294967296) : -2147483648 ≤ wrap32 n ∧ wrap32 n ≤ 2147483647 := by unfold wrap32; omega
theorem pMoved {s : St} {p : Vl} {k : Bk} (hp : VlOK p) (hg : goodS s p = some k) (by_ : Int) (hby : -2147483648 ≤ by_ ∧ by_ ≤ 2147483648) : ∀ (N : Nat → Prop) (b rb : Nat) (s2 : St) (w : World), D N b rb s s2 w →
  Calls Try.prog 56 #[.pointer (some ⟨b, 0, none⟩), .agg #[.int .i64 p.kind, .int .u32 p.v, .int .i64 p.block], .int .i64 by_] w fun e w' => e = .returned (.tuple #[.agg #[.int .i64 (mvA s p by_).1.kind, .int .u32 (mvA s p by_).1.v, .int .i64 (mvA s p by_).1.block], .int .i64 (mvA s p by_).2]) ∧ Below w.heap.size w w' := by
  intro N b rb s2 w h
  obtain ⟨xs, P, ys, R, h1, h2, rfl, rfl, hP0, hR0, hap⟩ := h.ex
  obtain ⟨x, hx, rfl⟩ := gX hg
  unfold mvA
  rw [hg]
  simp only []
  by_cases c1 : p.v + by_ < 0
  · rw [if_pos (Or.inl c1)]; exact moved_low h1 p hp by_ hby x hx c1
  by_cases c2 : (x.bk.size : Int) < p.v + by_
  · rw [if_pos (Or.inr c2)]; exact moved_high h1 p hp by_ hby x hx c2
  rw [if_neg (by omega)]
  exact moved_ok h1 p hp by_ hby x hx (by omega) (by omega)
theorem rMoved {s : St} {p : Vl} {k : Bk} (hp : VlOK p) (hg : goodS s p = some k) (by_ : Int) (hby : -2147483648 ≤ by_ ∧ by_ ≤ 2147483648) : ∀ (N : Nat → Prop) (b rb : Nat) (s1 : St) (w : World), D N b rb s1 s w →
  Calls Try.prog 69 #[.pointer (some ⟨rb, 0, none⟩), .agg #[.int .i64 p.kind, .int .u32 p.v, .int .i64 p.block], .int .i64 by_] w fun e w' => e = .returned (.tuple #[.agg #[.int .i64 (mvA s p by_).1.kind, .int .u32 (mvA s p by_).1.v, .int .i64 (mvA s p by_).1.block], .int .i64 (mvA s p by_).2]) ∧ Below w.heap.size w w' := by
  intro N b rb s1 w h
  obtain ⟨xs, P, ys, R, h1, h2, rfl, rfl, hP0, hR0, hap⟩ := h.ex
  unfold mvA
  rw [hg]
  simp only []
  by_cases c1 : p.v + by_ < 0
  · rw [if_pos (Or.inl c1)]; exact movedR_low h2 p hp by_ hby k hg c1
  by_cases c2 : (k.size : Int) < p.v + by_
  · rw [if_pos (Or.inr c2)]; exact movedR_high h2 p hp by_ hby k hg c2
  rw [if_neg (by omega)]
  exact movedR_ok h2 p hp by_ hby k hg (by omega) (by omega)
theorem pOfPtr {s : St} {p : Vl} {k : Bk} (hp : VlOK p) (hg : goodS s p = some k) (op n : Int) (n0 : 0 ≤ n) (n1 : n < 4294967296) : ∀ (N : Nat → Prop) (b rb : Nat) (s2 : St) (w : World), D N b rb s s2 w →
  Calls Try.prog 27 #[.pointer (some ⟨b, 0, none⟩), .int .i64 op, .agg #[.int .i64 p.kind, .int .u32 p.v, .int .i64 p.block], .int .u32 n] w fun e w' => e = .returned (.tuple #[.agg #[.int .i64 (pnA s op p n).1.kind, .int .u32 (pnA s op p n).1.v, .int .i64 (pnA s op p n).1.block], .int .i64 (pnA s op p n).2]) ∧ Below w.heap.size w w' := by
  intro N b rb s2 w h
  have hb := wrap32_bd n0 n1
  unfold pnA
  by_cases e1 : op = 1
  · rw [if_pos e1]
    exact ofPtr_add p op n n0 n1 e1 _ _ (fun Y hY => pMoved hp hg _ (by omega) N b rb s2 Y (h.below hY))
  rw [if_neg e1]
  by_cases e2 : op = 2
  · rw [if_pos e2]
    exact ofPtr_sub p op n n0 n1 e2 _ _ (fun Y hY => pMoved hp hg _ (by omega) N b rb s2 Y (h.below hY))
  rw [if_neg e2]
  by_cases hn : n = 0
  · by_cases e14 : op = 14
    · rw [if_pos ⟨hn, e14⟩]; exact ofPtr_zero p op n n0 n1 e1 e2 hn ⟨1, 0, 0⟩ 0 (unlike_eq op e14)
    · rw [if_neg (fun c => e14 c.2)]
      by_cases e15 : op = 15
      · rw [if_pos ⟨hn, e15⟩]; exact ofPtr_zero p op n n0 n1 e1 e2 hn ⟨1, 1, 0⟩ 0 (unlike_ne op e15)
      · rw [if_neg (fun c => e15 c.2)]; exact ofPtr_zero p op n n0 n1 e1 e2 hn vlZ 3 (unlike_no op e14 e15)
  · rw [if_neg (fun c => hn c.1), if_neg (fun c => hn c.1)]
    exact ofPtr_no p op n n0 n1 e1 e2 hn
theorem pbin_pn {s : St} {p q : Vl} {k : Bk} (op : Int) (hp : VlOK p) (hq : VlOK q) (hg : goodS s p = some k) (hk : q.kind = 1) (ho1 : 1 ≤ op) (ho2 : op ≤ 19) : PBin s op p q (pnA s op p q.v).1 (pnA s op p q.v).2 := by
  intro N b rb s2 w h
  have h' := h
  obtain ⟨xs, P, ys, R, h1, h2, rfl, rfl, hP0, hR0, hap⟩ := h.ex
  exact bin_pn h1 p q op hp hq ho1 ho2 (by rw [us_stX]; exact usS_t hg) (by rw [us_stX]; exact usS_n hk) (gSz h'.ok1 hg).1 hk _ _ (fun Y hY => pOfPtr hp hg op q.v hq.v0 hq.v1 N b rb _ Y (h'.below hY))
theorem rbin_pn {s : St} {p q : Vl} {k : Bk} (op : Int) (hp : VlOK p) (hq : VlOK q) (hg : goodS s p = some k) (hk : q.kind = 1) (ho1 : 1 ≤ op) (ho2 : op ≤ 19) : RBin s op p q (pnA s op p q.v).1 (pnA s op p q.v).2 := by
  intro N b rb s1 w h
  have h' := h
  obtain ⟨xs, P, ys, R, h1, h2, rfl, rfl, hP0, hR0, hap⟩ := h.ex
  have gp : (goodS (stR ys) p).isSome = true := by rw [hg]; rfl
  have gq : (goodS (stR ys) q).isSome = false := by rw [good_num hk]; rfl
  have hkp : ¬ p.kind = 1 := by have := (gSz h'.ok2 hg).1; omega
  have hb := wrap32_bd hq.v0 hq.v1
  unfold pnA
  by_cases e1 : op = 1
  · rw [if_pos e1]
    exact rb_pn_1 h2 p q op hp hq gp gq hkp hk ho1 ho2 e1 _ _ (fun Y hY => rMoved hp hg _ (by omega) N b rb _ Y (h'.below hY))
  rw [if_neg e1]
  by_cases e2 : op = 2
  · rw [if_pos e2]
    exact rb_pn_2 h2 p q op hp hq gp gq hkp hk ho1 ho2 e2 _ _ (fun Y hY => rMoved hp hg _ (by omega) N b rb _ Y (h'.below hY))
  rw [if_neg e2]
  by_cases hn : q.v = 0
  · by_cases e14 : op = 14
    · rw [if_pos ⟨hn, e14⟩]; exact rb_pn_14_z h2 p q op hp hq gp gq hkp hk ho1 ho2 e14 hn
    · rw [if_neg (fun c => e14 c.2)]
      by_cases e15 : op = 15
      · rw [if_pos ⟨hn, e15⟩]; exact rb_pn_15_z h2 p q op hp hq gp gq hkp hk ho1 ho2 e15 hn
      · rw [if_neg (fun c => e15 c.2)]; exact rb_pn_u h2 p q op hp hq gp gq hkp hk ho1 ho2 e1 e2 e14 e15
  · rw [if_neg (fun c => hn c.1), if_neg (fun c => hn c.1)]
    by_cases e14 : op = 14
    · exact rb_pn_14_nz h2 p q op hp hq gp gq hkp hk ho1 ho2 e14 hn
    by_cases e15 : op = 15
    · exact rb_pn_15_nz h2 p q op hp hq gp gq hkp hk ho1 ho2 e15 hn
    exact rb_pn_u h2 p q op hp hq gp gq hkp hk ho1 ho2 e1 e2 e14 e15
def npA (s : St) (op : Int) (n : Int) (q : Vl) : Vl × Int := if op = 2 then (vlZ, 3) else pnA s op q n
theorem pbin_np {s : St} {p q : Vl} {k : Bk} (op : Int) (hp : VlOK p) (hq : VlOK q) (hg : goodS s q = some k) (hk : p.kind = 1) (ho1 : 1 ≤ op) (ho2 : op ≤ 19) : PBin s op p q (npA s op p.v q).1 (npA s op p.v q).2 := by
  intro N b rb s2 w h
  have h' := h
  obtain ⟨xs, P, ys, R, h1, h2, rfl, rfl, hP0, hR0, hap⟩ := h.ex
  unfold npA
  by_cases e2 : op = 2
  · rw [if_pos e2]
    exact bin_np2 h1 p q op hp hq ho1 ho2 (by rw [us_stX]; exact usS_n hk) (by rw [us_stX]; exact usS_t hg) hk (gSz h'.ok1 hg).1 e2
  · rw [if_neg e2]
    exact bin_np h1 p q op hp hq ho1 ho2 (by rw [us_stX]; exact usS_n hk) (by rw [us_stX]; exact usS_t hg) hk (gSz h'.ok1 hg).1 e2 _ _ (fun Y hY => pOfPtr hq hg op p.v hp.v0 hp.v1 N b rb _ Y (h'.below hY))
theorem rbin_np {s : St} {p q : Vl} {k : Bk} (op : Int) (hp : VlOK p) (hq : VlOK q) (hg : goodS s q = some k) (hk : p.kind = 1) (ho1 : 1 ≤ op) (ho2 : op ≤ 19) : RBin s op p q (npA s op p.v q).1 (npA s op p.v q).2 := by
  intro N b rb s1 w h
  have h' := h
  obtain ⟨xs, P, ys, R, h1, h2, rfl, rfl, hP0, hR0, hap⟩ := h.ex
  have gq : (goodS (stR ys) q).isSome = true := by rw [hg]; rfl
  have gp : (goodS (stR ys) p).isSome = false := by rw [good_num hk]; rfl
  have hkq : ¬ q.kind = 1 := by have := (gSz h'.ok2 hg).1; omega
  have hb := wrap32_bd hp.v0 hp.v1
  unfold npA
  by_cases e2 : op = 2
  · rw [if_pos e2]; exact rb_np_2 h2 p q op hp hq gp gq hk hkq ho1 ho2 e2
  rw [if_neg e2]
  unfold pnA
  by_cases e1 : op = 1
  · rw [if_pos e1]
    exact rb_np_1 h2 p q op hp hq gp gq hk hkq ho1 ho2 e1 _ _ (fun Y hY => rMoved hq hg _ (by omega) N b rb _ Y (h'.below hY))
  rw [if_neg e1, if_neg e2]
  by_cases hn : p.v = 0
  · by_cases e14 : op = 14
    · rw [if_pos ⟨hn, e14⟩]; exact rb_np_14_z h2 p q op hp hq gp gq hk hkq ho1 ho2 e14 hn
    · rw [if_neg (fun c => e14 c.2)]
      by_cases e15 : op = 15
      · rw [if_pos ⟨hn, e15⟩]; exact rb_np_15_z h2 p q op hp hq gp gq hk hkq ho1 ho2 e15 hn
      · rw [if_neg (fun c => e15 c.2)]; exact rb_np_u h2 p q op hp hq gp gq hk hkq ho1 ho2 e1 e2 e14 e15
  · rw [if_neg (fun c => hn c.1), if_neg (fun c => hn c.1)]
    by_cases e14 : op = 14
    · exact rb_np_14_nz h2 p q op hp hq gp gq hk hkq ho1 ho2 e14 hn
    by_cases e15 : op = 15
    · exact rb_np_15_nz h2 p q op hp hq gp gq hk hkq ho1 ho2 e15 hn
    exact rb_np_u h2 p q op hp hq gp gq hk hkq ho1 ho2 e1 e2 e14 e15
theorem pbin_no {s : St} {p q : Vl} (op : Int) (hp : VlOK p) (hq : VlOK q) (hn : op < 1 ∨ 19 < op ∨ usS s p = false ∨ usS s q = false) : PBin s op p q vlZ 3 := by
  intro N b rb s2 w h
  obtain ⟨xs, P, ys, R, h1, h2, rfl, rfl, hP0, hR0, hap⟩ := h.ex
  by_cases o1 : op < 1
  · exact bin_op1 h1 p q op hp hq o1
  by_cases o2 : 19 < op
  · exact bin_op2 h1 p q op hp hq o2
  cases u1 : usX xs p with
  | false => exact bin_ua h1 p q op hp hq (by omega) (by omega) u1
  | true =>
    rw [← us_stX, ← us_stX, u1] at hn
    exact bin_ub h1 p q op hp hq (by omega) (by omega) u1 (by rcases hn with c | c | c | c <;> first | omega | exact c | cases c)
theorem rbin_no {s : St} {p q : Vl} (op : Int) (hp : VlOK p) (hq : VlOK q) (hn : op < 1 ∨ 19 < op ∨ usS s p = false ∨ usS s q = false) : RBin s op p q vlZ 3 := by
  intro N b rb s1 w h
  obtain ⟨xs, P, ys, R, h1, h2, rfl, rfl, hP0, hR0, hap⟩ := h.ex
  by_cases o : op < 1 ∨ 19 < op
  · exact rb_op _ _ h2 p q op hp hq rfl rfl o
  unfold usS at hn
  have hkg : ∀ v : Vl, v.kind = 1 → (goodS (stR ys) v).isSome = false := fun v hv => by rw [good_num hv]; rfl
  cases gp : (goodS (stR ys) p).isSome with
  | true =>
    have hkp : ¬ p.kind = 1 := fun c => by rw [hkg p c] at gp; cases gp
    have hq2 : ¬ q.kind = 1 ∧ (goodS (stR ys) q).isSome = false := by
      rcases hn with c | c | c | c
      · omega
      · omega
      · rw [gp] at c; simp at c
      · simpa using c
    exact rb_ub1 h2 p q op hp hq gp hq2.2 hkp hq2.1 (by omega) (by omega)
  | false =>
    by_cases hkp : p.kind = 1
    · have hq2 : ¬ q.kind = 1 ∧ (goodS (stR ys) q).isSome = false := by
        rcases hn with c | c | c | c
        · omega
        · omega
        · simp [hkp] at c
        · simpa using c
      exact rb_ub2 h2 p q op hp hq gp hq2.2 hkp hq2.1 (by omega) (by omega)
    · by_cases hkq : q.kind = 1
      · exact rb_ua h2 p q op hp hq gp (hkg q hkq) hkp hkq (by omega) (by omega)
      · cases gq : (goodS (stR ys) q).isSome with
        | true => exact rb_ua2 h2 p q op hp hq gp gq hkp hkq (by omega) (by omega)
        | false => exact rb_ua3 h2 p q op hp hq gp gq hkp hkq (by omega) (by omega)
theorem bin_two (s : St) (op : Int) (p q : Vl) (hp : VlOK p) (hq : VlOK q) : ∃ r st, PBin s op p q r st ∧ RBin s op p q r st := by
  by_cases hn : op < 1 ∨ 19 < op ∨ usS s p = false ∨ usS s q = false
  · exact ⟨_, _, pbin_no op hp hq hn, rbin_no op hp hq hn⟩
  have o1 : 1 ≤ op := by omega
  have o2 : op ≤ 19 := by omega
  have up : usS s p = true := by cases h : usS s p with | true => rfl | false => exact absurd (Or.inr (Or.inr (Or.inl h))) hn
  have uq : usS s q = true := by cases h : usS s q with | true => rfl | false => exact absurd (Or.inr (Or.inr (Or.inr h))) hn
  unfold usS at up uq
  by_cases hkp : p.kind = 1
  · by_cases hkq : q.kind = 1
    · obtain ⟨v, c, b1, b2⟩ := W.both_any op p.v q.v o1 o2 hp.v0 hp.v1 hq.v0 hq.v1
      cases c with
      | true =>
        refine ⟨⟨1, v, 0⟩, 0, fun N b rb s2 w h => ?_, fun N b rb s1 w h => ?_⟩
        · obtain ⟨xs, P, ys, R, h1, h2, rfl, rfl, hP0, hR0, hap⟩ := h.ex
          exact bin_nn h1 p q op hp hq o1 o2 (by rw [us_stX]; exact usS_n hkp) (by rw [us_stX]; exact usS_n hkq) hkp hkq ⟨1, v, 0⟩ 0 (fun Y _ => ofNum_ok op p.v q.v v b1 Y)
        · obtain ⟨xs, P, ys, R, h1, h2, rfl, rfl, hP0, hR0, hap⟩ := h.ex
          exact rb_nn_ok h2 p q op hp hq (by rw [good_num hkp]; rfl) (by rw [good_num hkq]; rfl) hkp hkq o1 o2 v b2
      | false =>
        refine ⟨vlZ, 2, fun N b rb s2 w h => ?_, fun N b rb s1 w h => ?_⟩
        · obtain ⟨xs, P, ys, R, h1, h2, rfl, rfl, hP0, hR0, hap⟩ := h.ex
          exact bin_nn h1 p q op hp hq o1 o2 (by rw [us_stX]; exact usS_n hkp) (by rw [us_stX]; exact usS_n hkq) hkp hkq vlZ 2 (fun Y _ => ofNum_no op p.v q.v v b1 Y)
        · obtain ⟨xs, P, ys, R, h1, h2, rfl, rfl, hP0, hR0, hap⟩ := h.ex
          exact rb_nn_no h2 p q op hp hq (by rw [good_num hkp]; rfl) (by rw [good_num hkq]; rfl) hkp hkq o1 o2 v b2
    · cases gq : goodS s q with
      | none => rw [gq] at uq; simp [hkq] at uq
      | some k => exact ⟨_, _, pbin_np op hp hq gq hkp o1 o2, rbin_np op hp hq gq hkp o1 o2⟩
  · cases gp : goodS s p with
    | none => rw [gp] at up; simp [hkp] at up
    | some k =>
      by_cases hkq : q.kind = 1
      · exact ⟨_, _, pbin_pn op hp hq gp hkq o1 o2, rbin_pn op hp hq gp hkq o1 o2⟩
      · cases gq : goodS s q with
        | none => rw [gq] at uq; simp [hkq] at uq
        | some k2 => exact ⟨_, _, pbin_pp op hp hq gp gq o1 o2, rbin_pp op hp hq gp gq o1 o2⟩
end Go.Proofs.Ytigiahcfcglacaa
