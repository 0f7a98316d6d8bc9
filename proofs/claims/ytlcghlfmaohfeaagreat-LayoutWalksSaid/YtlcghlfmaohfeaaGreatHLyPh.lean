/-
  paint: a picture of a type; Gaps.
  Which bits of an object something in it has, by a plain function over rows. (Pure.)
  The painter: what it knows.
  The closure of paintRecord: a bit-field.
  The closure of paintRecord: a member that is no bit-field.
  The closure of paintRecord: a member without a name.
  paintRecord: what the members of a struct or a union have.
  paintRecord: the call.
  painted, paint: a picture of every whole type that is not too large.
  gaps: the runs of bits that are not set.
-/
import Derived.Test.YtlcghlfmaohfeaaGreatHLyX
import Derived.Test.YtlcghlfmaohfeaaGreatHLySB
import Derived.Test.YtlcghlfmaohfeaaGreatHLyK
import Derived.Test.YtlcghlfmaohfeaaGreatHLyB
import Derived.Deep.RegionWith
import Derived.Deep.RegionHeld3
import Derived.Test.YtlcghlfmaohfeaaGreatHLyW
import Derived.Test.YtlcghlfmaohfeaaGreatHLyZ
import Derived.Laws.MakeOwn
import Derived.Test.YtlcghlfmaohfeaaGreatHLyA
import Derived.Test.YtlcghlfmaohfeaaGreatHLyI
namespace Go.Proofs.YtlcghlfmaohfeaaGreat
open Go.RowKit Go.Maps
set_option linter.unusedVariables false
/-- Has the member of a place that bit? -/
def hitsP (M : Int → Ex) (H : Int → Nat → Bool) (mem : List Mb) (P : Pl) (k : Nat) : Bool :=
  (match mem[P.mem.toNat]? with | some x => !(x.name.toList == []) | none => false) &&
  (if 0 < P.bits then decide (8 * P.off + P.bit ≤ k) && decide ((k : Int) < 8 * P.off + P.bit + P.bits)
   else decide (8 * P.off ≤ k) && decide ((k : Int) < 8 * (P.off + (M P.type).size)) && H P.type (k - (8 * P.off).toNat))
def hadR (M : Int → Ex) (H : Int → Nat → Bool) (r : Rw) (k : Nat) : Bool :=
  if r.kind = 14 then H r.elem (k % (8 * (M r.elem).size).toNat)
  else if recK r.kind then (placesS (r.kind == 16) M ls0 0 r.mem).any (fun P => hitsP M H r.mem P k)
  else true
def IsHad (rs : List Rw) (M : Int → Ex) (H : Int → Nat → Bool) : Prop := ∀ (i : Nat) (r : Rw), rs[i]? = some r → ∀ k, H i k = hadR M H r k
theorem places_type {un : Bool} {M : Int → Ex} : ∀ (l : List Mb) (s : Ls) (i : Nat), ∀ P ∈ placesS un M s i l, ∃ m ∈ l, P.type = m.type
  | [], _, _, P, hP => by simp [placesS] at hP
  | m :: l, s, i, P, hP => by
    simp only [placesS, List.mem_append] at hP
    rcases hP with hP | hP
    · by_cases hb : m.bits = 0
      · rw [if_pos hb] at hP; simp at hP
      · rw [if_neg hb, List.mem_singleton] at hP
        refine ⟨m, by simp, ?_⟩
        rw [hP]; unfold spotP; split <;> rfl
    · obtain ⟨m', h1, h2⟩ := places_type l _ _ P hP
      exact ⟨m', by simp [h1], h2⟩
theorem hadR_congr {M : Int → Ex} {H K : Int → Nat → Bool} {r : Rw} (h : ∀ x ∈ partsR r, H x = K x) (k : Nat) : hadR M H r k = hadR M K r k := by
  unfold hadR partsR at *
  by_cases c : r.kind = 14
  · rw [if_pos c] at h
    rw [if_pos c, if_pos c, h r.elem (by simp)]
  · rw [if_neg c] at h
    rw [if_neg c, if_neg c]
    by_cases d : recK r.kind = true
    · rw [if_pos d, if_pos d]
      rw [Bool.eq_iff_iff, List.any_eq_true, List.any_eq_true]
      have e : ∀ P ∈ placesS (r.kind == 16) M ls0 0 r.mem, hitsP M H r.mem P k = hitsP M K r.mem P k := by
        intro P hP
        obtain ⟨m, hm, ht⟩ := places_type r.mem ls0 0 P hP
        unfold hitsP
        rw [ht, h m.type (List.mem_map.2 ⟨m, hm, rfl⟩)]
      constructor
      · rintro ⟨P, hP, hk⟩; exact ⟨P, hP, by rw [← e P hP]; exact hk⟩
      · rintro ⟨P, hP, hk⟩; exact ⟨P, hP, by rw [e P hP]; exact hk⟩
    · rw [if_neg d, if_neg d]
def hadF (rs : List Rw) (M : Int → Ex) : Nat → Int → Nat → Bool
  | 0, _, _ => true
  | n + 1, id, k => match rs[id.toNat]? with
    | some r => hadR M (hadF rs M n) r k
    | none => true
theorem hadF_stable {rs : List Rw} {M : Int → Ex} {rank : Nat → Nat} (hr : ∀ (i : Nat) (r : Rw), rs[i]? = some r → ∀ x ∈ partsR r, 0 ≤ x ∧ rank x.toNat < rank i) :
    ∀ (n m : Nat) (i : Nat), rank i < n → rank i < m → hadF rs M n i = hadF rs M m i := by
  intro n
  induction n with
  | zero => intro m i h; omega
  | succ n ih =>
    intro m i h1 h2
    obtain ⟨m, rfl⟩ : ∃ k, m = k + 1 := ⟨m - 1, by omega⟩
    funext k
    simp only [hadF, Int.toNat_natCast]
    cases hp : rs[i]? with
    | none => rfl
    | some r =>
      simp only
      apply hadR_congr
      intro x hx
      obtain ⟨x0, hlt⟩ := hr i r hp x hx
      obtain ⟨k, rfl⟩ : ∃ k : Nat, x = k := ⟨x.toNat, by omega⟩
      rw [Int.toNat_natCast] at hlt
      exact ih m k (by omega) (by omega)
theorem had_exists {rs : List (Rw × Value)} {M : Int → Ex} (h : FromOK rs) : ∃ H, IsHad (rowsOf rs) M H := by
  obtain ⟨rank, hr0⟩ := ok_rank h
  have hr : ∀ (i : Nat) (r : Rw), (rowsOf rs)[i]? = some r → ∀ x ∈ partsR r, 0 ≤ x ∧ rank x.toNat < rank i := fun i r hi x hx => ⟨(hr0 i r hi x hx).1.1, (hr0 i r hi x hx).2⟩
  refine ⟨fun id => hadF (rowsOf rs) M (rank id.toNat + 1) id, fun i r hp k => ?_⟩
  simp only [Int.toNat_natCast]
  rw [hadF, Int.toNat_natCast, hp]
  simp only
  apply hadR_congr
  intro x hx
  obtain ⟨x0, hlt⟩ := hr i r hp x hx
  obtain ⟨k, rfl⟩ : ∃ k : Nat, x = k := ⟨x.toNat, by omega⟩
  rw [Int.toNat_natCast] at hlt ⊢
  exact hadF_stable hr _ _ k hlt (by omega)
/-- A picture of a type. -/
def PicOf (M : Int → Ex) (H : Int → Nat → Bool) (i : Int) (L : List UInt8) : Prop := (L.length : Int) = (M i).size ∧ ∀ k, k < 8 * L.length → bitB L k = H i k
/-- More of the places: a bit-field's end. -/
theorem place_bits {un : Bool} {M : Int → Ex} : ∀ (l : List Mb) (n : Nat) (s : Ls) (i : Nat), LsOK n s → (∀ m ∈ l, ExOK (M m.type) ∧ BitsOK m (M m.type)) →
    ∀ P ∈ placesS un M s i l, 0 ≤ P.off ∧ 0 ≤ P.bit ∧ ∃ (j : Nat) (m : Mb), l[j]? = some m ∧ P.mem = ((i + j : Nat) : Int) ∧ P.type = m.type ∧ m.bits ≠ 0 ∧ (m.bits = -1 → P.bits = 0 ∧ P.bit = 0 ∧ 8 * (P.off + (M m.type).size) ≤ (layS un M s l).fin) ∧ (m.bits ≠ -1 → P.bits = m.bits ∧ 0 < P.bits ∧ 8 * P.off + P.bit + P.bits ≤ (layS un M s l).fin)
  | [], _, _, _, _, _, P, hP => by simp [placesS] at hP
  | m :: l, n, s, i, hs, hm, P, hP => by
    obtain ⟨hE, hB⟩ := hm m (by simp)
    have hs1 := step_ok (un := un) hs hE hB
    have hmono := fin_mono (un := un) (M := M) l (stepP un M s m)
    simp only [placesS, List.mem_append] at hP
    rcases hP with hP | hP
    · by_cases hb : m.bits = 0
      · rw [if_pos hb] at hP; simp at hP
      · rw [if_neg hb] at hP
        have hp0 : 0 ≤ (if un = true then 0 else s.place) := by split; exact Int.le_refl _; exact hs.p0
        have hq := begin_bd (m := m) hE hp0
        have hfin : beginP (if un = true then 0 else s.place) m (M m.type) + takenP m (M m.type) ≤ (stepP un M s m).fin := by
          show _ ≤ max s.fin (beginP (if un = true then 0 else s.place) m (M m.type) + takenP m (M m.type))
          omega
        have e1 := hE.lo
        simp only [List.mem_singleton] at hP
        subst hP
        simp only [layS]
        by_cases h1 : m.bits = -1
        · have hmul : ∃ k, beginP (if un = true then 0 else s.place) m (M m.type) = 8 * k := by
            unfold beginP
            rw [if_pos h1, rup_mul]
            exact ⟨_, rfl⟩
          obtain ⟨k, hk⟩ := hmul
          have htk : takenP m (M m.type) = 8 * (M m.type).size := by unfold takenP; rw [if_pos h1]
          generalize beginP (if un = true then 0 else s.place) m (M m.type) = q at *
          unfold spotP
          rw [if_pos h1]
          simp only
          exact ⟨by omega, by omega, 0, m, rfl, rfl, rfl, hb, fun _ => ⟨by trivial, by trivial, by omega⟩, fun e => absurd h1 e⟩
        · have htk : takenP m (M m.type) = m.bits := by unfold takenP; rw [if_neg h1]
          have hb2 : 0 ≤ m.bits := by rcases hB with h | h; exact absurd h h1; exact h.1
          generalize beginP (if un = true then 0 else s.place) m (M m.type) = q at *
          unfold spotP
          rw [if_neg h1]
          simp only
          have hd := Int.ediv_nonneg (show 0 ≤ q by omega) (show 0 ≤ 8 * (M m.type).size by omega)
          have hx := Int.mul_ediv_add_emod q (8 * (M m.type).size)
          have hmod := Int.emod_nonneg q (show 8 * (M m.type).size ≠ 0 by omega)
          rw [Int.mul_assoc] at hx
          have hn := Int.mul_nonneg (show 0 ≤ (M m.type).size by omega) hd
          exact ⟨hn, hmod, 0, m, rfl, rfl, rfl, hb, fun e => absurd e h1, fun _ => ⟨by trivial, by omega, by omega⟩⟩
    · obtain ⟨q1, q2, j, m', q3, q4, q5, q6, q7, q8⟩ := place_bits l (n + 1) (stepP un M s m) (i + 1) hs1 (fun x hx => hm x (by simp [hx])) P hP
      simp only [layS]
      exact ⟨q1, q2, j + 1, m', by simpa using q3, by rw [q4]; congr 1; omega, q5, q6, q7, q8⟩
section
variable {rs : List (Rw × Value)} {M : Int → Ex}
theorem rec_size (hf : FromOK rs) (hM : IsMeas (rowsOf rs) M) {i : Nat} {p : Rw × Value} (hp : rs[i]? = some p) (hwh : wholeR p.1 = true) (hk : recK p.1.kind = true) (hgt : (M i).size ≤ 16384) :
    (∀ m ∈ p.1.mem, ExOK (M m.type) ∧ BitsOK m (M m.type)) ∧ LsOK p.1.mem.length (layS (p.1.kind == 16) M ls0 p.1.mem) ∧ (layS (p.1.kind == 16) M ls0 p.1.mem).fin ≤ 8 * (M i).size ∧ M i = endP (layS (p.1.kind == 16) M ls0 p.1.mem) := by
  have hlt : i < rs.length := (List.getElem?_eq_some_iff.1 hp).1
  have h14 : ¬ p.1.kind = 14 := by intro e; rw [e] at hk; exact absurd hk (by decide)
  have hd : p.1.done = true := by
    unfold wholeR at hwh
    rw [if_neg h14, if_pos hk] at hwh
    exact hwh
  have hmem := ok_members hf hp hk hd
  have hall : ∀ m ∈ p.1.mem, ExOK (M m.type) ∧ BitsOK m (M m.type) := fun m hm => by
    obtain ⟨q, hq, hwq, x0, xl⟩ := whole_at (hmem m hm).1
    have hxe : m.type = (m.type.toNat : Int) := by omega
    refine ⟨?_, bits_ok hf hM (hmem m hm).1 (hmem m hm).2⟩
    rw [hxe]; exact meas_ok hf hM _ q hq hwq
  have h0 : LsOK 0 ls0 := ⟨by decide, by decide, by decide, by decide, by decide⟩
  have hls := layS_ok (un := p.1.kind == 16) (M := M) p.1.mem 0 ls0 h0 hall
  rw [Nat.zero_add] at hls
  have hfin := end_fin hls
  have hMi : M i = clampE (endP (layS (p.1.kind == 16) M ls0 p.1.mem)) := by
    rw [hM i p.1 (rows_at hp)]
    unfold roomP
    rw [if_neg h14, if_pos hk]
  have hMs : (M i).size = min (endP (layS (p.1.kind == 16) M ls0 p.1.mem)).size 16385 := by rw [hMi]; rfl
  refine ⟨hall, hls, by omega, ?_⟩
  rw [hMi]
  have e : (endP (layS (p.1.kind == 16) M ls0 p.1.mem)).size ≤ 16385 := by omega
  unfold clampE
  rw [show min (endP (layS (p.1.kind == 16) M ls0 p.1.mem)).size 16385 = (endP (layS (p.1.kind == 16) M ls0 p.1.mem)).size by omega]
/-- The place of a member of a struct or a union that is whole and not too large. -/
theorem place_all (hf : FromOK rs) (hM : IsMeas (rowsOf rs) M) {i : Nat} {p : Rw × Value} (hp : rs[i]? = some p) (hwh : wholeR p.1 = true) (hk : recK p.1.kind = true) (hgt : (M i).size ≤ 16384) :
    ∀ P ∈ placesS (p.1.kind == 16) M ls0 0 p.1.mem, 0 ≤ P.off ∧ 0 ≤ P.bit ∧ ∃ (j : Nat) (m : Mb), p.1.mem[j]? = some m ∧ P.mem = (j : Int) ∧ P.type = m.type ∧ m.bits ≠ 0 ∧ (m.bits = -1 → P.bits = 0 ∧ P.bit = 0 ∧ P.off + (M m.type).size ≤ (M i).size) ∧ (m.bits ≠ -1 → P.bits = m.bits ∧ 0 < P.bits ∧ 8 * P.off + P.bit + P.bits ≤ 8 * (M i).size) := by
  obtain ⟨hall, hls, hfin, _⟩ := rec_size hf hM hp hwh hk hgt
  intro P hP
  obtain ⟨q1, q2, j, m, q3, q4, q5, q6, q7, q8⟩ := place_bits p.1.mem 0 ls0 0 ⟨by decide, by decide, by decide, by decide, by decide⟩ hall P hP
  refine ⟨q1, q2, j, m, q3, by rw [q4]; simp, q5, q6, fun e => ?_, fun e => ?_⟩
  · obtain ⟨a1, a2, a3⟩ := q7 e; exact ⟨a1, a2, by omega⟩
  · obtain ⟨a1, a2, a3⟩ := q8 e; exact ⟨a1, a2, by omega⟩
end
end Go.Proofs.YtlcghlfmaohfeaaGreat
namespace Go.Proofs.YtlcghlfmaohfeaaGreat
open Go.RowKit Go.Maps
set_option linter.unusedVariables false
set_option maxRecDepth 100000
abbrev TPt : TypeId := 101
abbrev TPtP : TypeId := 134
/-- A slot of the pictures: none, or the picture of a type in a block of its own that none of A is. -/
def PicAt (rs : List (Rw × Value)) (M : Int → Ex) (H : Int → Nat → Bool) (A : Nat → Prop) (W : World) (i : Nat) (v : Value) : Prop :=
  v = .slice none 0 0 ∨ ∃ (g cap : Nat) (L : List UInt8), v = .slice (some ⟨g, 0, none⟩) L.length cap ∧ (0 < L.length ∧ L.length ≤ cap) ∧ ByB W g L.length L ∧ ¬ A g ∧ PicOf M H i L
structure PA (w0 : World) (b rb m pb gp : Nat) (rs : List (Rw × Value)) (M : Int → Ex) (H : Int → Nat → Bool) (A : Nat → Prop) (W : World) : Prop where
  ru : RU w0 b rb m rs M W
  pt : W.heap[pb]? = some (.cells #[.pointer (some ⟨rb, 0, none⟩), .slice (some ⟨gp, 0, none⟩) rs.length rs.length] TPt (0, 0))
  pics : ∃ cur : Array Value, W.heap[gp]? = some (.cells cur TBy (0, 0)) ∧ cur.size = rs.length ∧ ∀ i v, cur[i]? = some v → PicAt rs M H A W i v
section
variable {w0 : World} {b rb m pb gp : Nat} {rs : List (Rw × Value)} {M : Int → Ex} {H : Int → Nat → Bool} {A A' : Nat → Prop} {W w' : World}
theorem ByB.tag {w : World} {g N : Nat} {l : List UInt8} (h : ByB w g N l) : ∃ cs, w.heap[g]? = some (.cells cs 5 (0, 0)) := by
  obtain ⟨cs, h, _⟩ := h; exact ⟨cs, h⟩
theorem PicAt.keep {i : Nat} {v : Value} (h : PicAt rs M H A W i v) {S : Nat → Prop} (ht : Turned W w' S) (hS : ∀ g cs, W.heap[g]? = some (.cells cs 5 (0, 0)) → ¬ A g → ¬ S g) (hA : ∀ k, k < W.heap.size → A' k → A k) : PicAt rs M H A' w' i v := by
  rcases h with h | ⟨g, cap, L, h1, h2, h3, h4, h5⟩
  · exact .inl h
  · obtain ⟨cs, hc⟩ := h3.tag
    exact .inr ⟨g, cap, L, h1, h2, h3.turned ht (hS g cs hc h4), fun e => h4 (hA g h3.lt e), h5⟩
theorem PA.keep (h : PA w0 b rb m pb gp rs M H A W) (hU : RU w0 b rb m rs M w') {S : Nat → Prop} (ht : Turned W w' S) (h1 : ¬ S pb) (h2 : ¬ S gp) (hS : ∀ g cs, W.heap[g]? = some (.cells cs 5 (0, 0)) → ¬ A g → ¬ S g) (hA : ∀ k, k < W.heap.size → A' k → A k) : PA w0 b rb m pb gp rs M H A' w' := by
  obtain ⟨cur, q1, q2, q3⟩ := h.pics
  exact ⟨hU, blk_t h.pt ht h1, cur, blk_t q1 ht h2, q2, fun i v hv => (q3 i v hv).keep ht hS hA⟩
theorem PA.below (h : PA w0 b rb m pb gp rs M H A W) (hb : Below W.heap.size W w') : PA w0 b rb m pb gp rs M H A w' :=
  h.keep (h.ru.kept hb) (Turned.of_below hb (fun _ => False)) id id (fun _ _ _ _ => id) (fun _ _ e => e)
/-- Not a block of the ruler's map. -/
theorem RU.ne_m (h : RU w0 b rb m rs M W) {g : Nat} {c : Array Value} {t : TypeId} (hg : W.heap[g]? = some (.cells c t (0, 0))) : g ≠ m := by
  obtain ⟨es, ck, h1, _⟩ := h.kn
  rintro rfl
  rw [hg] at h1; cases h1
/-- What paint answers of a type. -/
def PC (w0 : World) (b rb m pb gp : Nat) (rs : List (Rw × Value)) (M : Int → Ex) (H : Int → Nat → Bool) (id : Int) : Prop :=
  ∀ (A : Nat → Prop) (W : World), PA w0 b rb m pb gp rs M H A W → (∀ k, A k → k < W.heap.size) →
    Calls Tryz.prog 40 #[.pointer (some ⟨pb, 0, none⟩), .int .i64 id] W fun e w' => ∃ (g cap : Nat) (L : List UInt8), e = .returned (.slice (some ⟨g, 0, none⟩) L.length cap) ∧ L.length ≤ cap ∧ ByB w' g L.length L ∧ ¬ A g ∧ PicOf M H id L ∧ PA w0 b rb m pb gp rs M H A w' ∧ Turned W w' (fun k => k = m ∨ k = gp)
/-- The boxes of paintRecord: the row, the bytes, the painter. -/
structure PnB (ob bb pp gb n pb : Nat) (row : Array Value) (w : World) : Prop where
  row : w.heap[ob]? = some (.cells row TR (0, 0))
  bs : w.heap[bb]? = some (.cells #[.slice (some ⟨gb, 0, none⟩) n n] TBy (0, 0))
  pt : w.heap[pp]? = some (.cells #[.pointer (some ⟨pb, 0, none⟩)] TPtP (0, 0))
end
end Go.Proofs.YtlcghlfmaohfeaaGreat
namespace Go.Proofs.YtlcghlfmaohfeaaGreat
open Go.RowKit Go.Maps
set_option linter.unusedVariables false
set_option maxRecDepth 100000
/-- Nothing but one block has turned. -/
def SG (W0 : World) (gb : Nat) (Y : World) : Prop := Turned W0 Y (fun k => k = gb)
theorem SG.drew {W0 Y : World} {gb : Nat} (h : SG W0 gb Y) : SG W0 gb Y.drew := ⟨h.os, h.tape, h.output, h.size, h.block⟩
theorem SG.turned {W0 Y Z : World} {gb : Nat} (h : SG W0 gb Y) (ht : Turned Y Z (fun k => k = gb)) : SG W0 gb Z := Turned.trans h ht (fun _ _ e => e)
theorem SG.cell {W0 Y : World} {gb g j : Nat} {v : Value} {o : Obj} (h : SG W0 gb Y) (hg : W0.heap[g]? = some o) (hne : g ≠ gb) (hc : W0.cell? ⟨g, j, none⟩ = some v) : Y.cell? ⟨g, j, none⟩ = some v :=
  (World.cell?_of_block (w := W0) (a := ⟨g, j, none⟩) (h.block g (lt_of_heap hg) hne)).trans hc
theorem wrap_id {x : Int} (h0 : 0 ≤ x) (h1 : x ≤ 1000000000) : IntKind.i64.wrap x = x := by
  simp [IntKind.wrap, IntKind.signed, IntKind.bits]
  omega
section
variable {w : World} {ob bb pp gb n pb : Nat}
set_option maxHeartbeats 4000000 in
theorem paint1_b (p : Pl) (r : Rw) {sp : Option Addr} {sc : Nat} (h : PnB ob bb pp gb n pb #[.int .i64 r.kind, .int .i64 r.elem, .int .i64 r.len, .string r.tag, .slice sp r.mem.length sc, .bool r.done] w) (hsl : MemSl w (.slice sp r.mem.length sc) r.mem) {j : Nat} {x : Mb} (hj : p.mem = j) (hx : r.mem[j]? = some x) (hn64 : r.mem.length ≤ 64) (hnm : (x.name.toList == []) = false)
    (hbt : 0 < p.bits) (ho : 0 ≤ p.off) (hb0 : 0 ≤ p.bit) (hn : n ≤ 16384) (hend : 8 * p.off + p.bit + p.bits ≤ 8 * n) (L : List UInt8) (hL : ByB w gb n L) (hLn : L.length = n) :
    Calls Tryz.prog 110 #[.agg (plV p), .pointer (some ⟨ob, 0, none⟩), .pointer (some ⟨bb, 0, none⟩), .pointer (some ⟨pp, 0, none⟩)] w fun e w' => e = .returned (.tuple #[]) ∧ Turned w w' (fun k => k = gb) ∧ ∃ L', L'.length = n ∧ ByB w' gb n L' ∧ ∀ k : Nat, bitB L' k = (bitB L k || (decide (8 * p.off + p.bit ≤ k) && decide ((k : Int) < 8 * p.off + p.bit + p.bits))) := by
  have hlt : j < r.mem.length := (List.getElem?_eq_some_iff.1 hx).1
  have hb1 := below1 w (.cells #[.int .i64 p.mem, .int .i64 p.type, .int .i64 p.off, .int .i64 p.bit, .int .i64 p.bits] TPl)
  have r4 := Lib.cell_of_heap (blk_b h.row hb1) 4
  have k0 := Lib.cell_of_heap (blk_b h.bs hb1) 0
  have P1 := heap_r0 w (.cells #[.int .i64 p.mem, .int .i64 p.type, .int .i64 p.off, .int .i64 p.bit, .int .i64 p.bits] TPl)
  have d0 := Lib.cell_of_heap P1 0
  have d2 := Lib.cell_of_heap P1 2
  have d3 := Lib.cell_of_heap P1 3
  have d4 := Lib.cell_of_heap P1 4
  simp only [List.getElem?_toArray, List.getElem?_cons_zero, List.getElem?_cons_succ] at r4 d0 d2 d3 d4 k0
  obtain ⟨pm, pt, po, pb', pbs⟩ := p
  simp only at *
  subst hj
  obtain ⟨o', rfl⟩ : ∃ o' : Nat, po = o' := ⟨po.toNat, by omega⟩
  obtain ⟨t', rfl⟩ : ∃ t' : Nat, pb' = t' := ⟨pb'.toNat, by omega⟩
  obtain ⟨s', rfl⟩ : ∃ s' : Nat, pbs = s' := ⟨pbs.toNat, by omega⟩
  rcases hsl.below hb1 with ⟨e1, e2⟩ | ⟨g, o, cap, e1, hcap, hg, hc⟩
  · rw [e2] at hlt; simp at hlt
  · cases e1
    have m0 := hc j x hx 0 (by omega)
    simp only [mbCells, Nat.add_zero, List.getElem?_cons_zero] at m0
    have HB : Hid (Below _ _ _) := hb1
    have hL1 := hL.turned (Turned.of_below hb1 (fun _ => False)) (fun h => h)
    have HSB : Hid (∀ Y : World, ByB Y gb n L → Calls Tryz.prog 111 #[.slice (some ⟨gb, 0, none⟩) n n, .int .i64 (IntKind.i64.wrap (8 * (o' : Int) + (t' : Int))), .int .i64 (s' : Int)] Y fun e w' => e = .returned (.tuple #[]) ∧ Turned Y w' (fun k => k = gb) ∧ ∃ l', l'.length = L.length ∧ ByB w' gb n l' ∧ ∀ k, bitB l' k = (bitB L k || (decide (8 * o' + t' ≤ k) && decide (k < 8 * o' + t' + s')))) := fun Y hY => by
      have q := setBits_c L (8 * o' + t') s' gb n n Y hY (by omega) (by omega)
      rw [hLn, show ((8 * o' + t' : Nat) : Int) = IntKind.i64.wrap (8 * (o' : Int) + (t' : Int)) by rw [wrap_id (by omega) (by omega)]; omega] at q
      rw [hLn]
      exact q
    have HL1 : Hid (ByB _ gb n L) := hL1
    have HI : Hid (∀ W, Calls Tryz.prog 90 #[.int .i64 (o' : Int)] W fun e w' => e = .returned (.int .i64 (8 * (o' : Int))) ∧ w' = W) := fun W => inBits_c (o' : Int) W (by omega) (by omega)
    obtain ⟨cs, hcs⟩ := hL1.tag
    have nb1 : bb ≠ gb := tag_ne (blk_b h.bs hb1) hcs (by decide)
    have nb2 : w.heap.size ≠ gb := tag_ne P1 hcs (by decide)
    have HP1 : Hid (_ = _) := P1
    have HK : Hid (_ = _) := blk_b h.bs hb1
    clear h hb1 hc hx P1 hL hL1 hsl hcs
    go_enter Tryz.func110, Tryz.ntmps110
    go_wp2
    refine (?_ : Code.wp _ _ _ _ (w.alloc (.cells #[.int .i64 (j : Int), .int .i64 pt, .int .i64 (o' : Int), .int .i64 (t' : Int), .int .i64 (s' : Int)] TPl)))
    generalize w.alloc (.cells #[.int .i64 (j : Int), .int .i64 pt, .int .i64 (o' : Int), .int .i64 (t' : Int), .int .i64 (s' : Int)] TPl) = W1 at *
    have L0 : ∀ Y, SG W1 gb Y → Y.cell? ⟨bb, 0, none⟩ = some (.slice (some ⟨gb, 0, none⟩) n n) := fun Y h => h.cell HK.out nb1 k0
    have L2 : ∀ Y, SG W1 gb Y → Y.cell? ⟨w.heap.size, 2, none⟩ = some (.int .i64 (o' : Int)) := fun Y h => h.cell HP1.out nb2 d2
    have L3 : ∀ Y, SG W1 gb Y → Y.cell? ⟨w.heap.size, 3, none⟩ = some (.int .i64 (t' : Int)) := fun Y h => h.cell HP1.out nb2 d3
    have L4 : ∀ Y, SG W1 gb Y → Y.cell? ⟨w.heap.size, 4, none⟩ = some (.int .i64 (s' : Int)) := fun Y h => h.cell HP1.out nb2 d4
    have HSG : SG W1 gb W1 := Turned.refl _ _
    clear k0 d0 d2 d3 d4 r4 m0 HP1 HK
    go_region_held3 (fun Y => SG W1 gb Y) (first | assumption | (with_reducible refine SG.drew ?_; assumption) | (with_reducible refine SG.turned ?_ (by assumption); assumption)) (first
      | (go_at_call 90; refine (HI.out _).mono ?_; rintro e y1 ⟨rfl, rfl⟩)
      | (go_at_call 111; refine (HSB.out _ ?_).mono ?_; exact by_drew HL1.out; rintro e w2 ⟨rfl, ht2, HE⟩; have HT2 : Hid (Turned W1.drew w2 (fun k => k = gb)) := ht2; have HE2 : Hid (∃ l' : List UInt8, l'.length = L.length ∧ ByB w2 gb n l' ∧ ∀ k, bitB l' k = (bitB L k || (decide (8 * o' + t' ≤ k) && decide (k < 8 * o' + t' + s')))) := HE; clear HE))
    go_wp2
    go_end0
    obtain ⟨l', q1, q2, q3⟩ := HE2.out
    refine ⟨rfl, ?_, l', by omega, q2, fun k => ?_⟩
    · have q := (Turned.of_below HB.out (fun k => k = gb)).trans (SG.turned (SG.drew (Turned.refl _ _)) HT2.out) (fun _ _ e => e)
      exact ⟨q.os, q.tape, q.output, q.size, q.block⟩
    · rw [q3 k]
      congr 1
      rw [Bool.eq_iff_iff]; simp; omega
end
end Go.Proofs.YtlcghlfmaohfeaaGreat
namespace Go.Proofs.YtlcghlfmaohfeaaGreat
open Go.RowKit Go.Maps
set_option linter.unusedVariables false
set_option maxRecDepth 100000
section
variable {w0 w : World} {b rb m ob bb pp gb n pb gp : Nat} {rs : List (Rw × Value)} {M : Int → Ex} {H : Int → Nat → Bool} {A : Nat → Prop}
set_option maxHeartbeats 8000000 in
theorem paint1_d (p : Pl) (r : Rw) {sp : Option Addr} {sc : Nat} (h : PnB ob bb pp gb n pb #[.int .i64 r.kind, .int .i64 r.elem, .int .i64 r.len, .string r.tag, .slice sp r.mem.length sc, .bool r.done] w) (hsl : MemSl w (.slice sp r.mem.length sc) r.mem) {j : Nat} {x : Mb} (hj : p.mem = j) (hx : r.mem[j]? = some x) (hn64 : r.mem.length ≤ 64) (hnm : (x.name.toList == []) = false)
    (hbt : ¬ 0 < p.bits) (ho : 0 ≤ p.off) (hn : n ≤ 16384) (hend : p.off + (M p.type).size ≤ n) (L : List UInt8) (hL : ByB w gb n L) (hLn : L.length = n)
    (hPC : PC w0 b rb m pb gp rs M H p.type) (hPA : PA w0 b rb m pb gp rs M H A w) (hA : ∀ k, A k → k < w.heap.size) (hAg : A gb) (hbg : bb ≠ gp) (hg0 : w0.heap.size ≤ gb) :
    Calls Tryz.prog 110 #[.agg (plV p), .pointer (some ⟨ob, 0, none⟩), .pointer (some ⟨bb, 0, none⟩), .pointer (some ⟨pp, 0, none⟩)] w fun e w' => e = .returned (.tuple #[]) ∧ PA w0 b rb m pb gp rs M H A w' ∧ Turned w w' (fun k => k = m ∨ k = gp ∨ k = gb) ∧ ∃ L', L'.length = n ∧ ByB w' gb n L' ∧ ∀ k : Nat, bitB L' k = (bitB L k || (decide (8 * p.off ≤ k) && decide ((k : Int) < 8 * (p.off + (M p.type).size)) && H p.type (k - (8 * p.off).toNat))) := by
  have hlt : j < r.mem.length := (List.getElem?_eq_some_iff.1 hx).1
  have hb1 := below1 w (.cells #[.int .i64 p.mem, .int .i64 p.type, .int .i64 p.off, .int .i64 p.bit, .int .i64 p.bits] TPl)
  have r4 := Lib.cell_of_heap (blk_b h.row hb1) 4
  have P1 := heap_r0 w (.cells #[.int .i64 p.mem, .int .i64 p.type, .int .i64 p.off, .int .i64 p.bit, .int .i64 p.bits] TPl)
  have pp0 := Lib.cell_of_heap (blk_b h.pt hb1) 0
  have d0 := Lib.cell_of_heap P1 0
  have d1 := Lib.cell_of_heap P1 1
  have d4 := Lib.cell_of_heap P1 4
  simp only [List.getElem?_toArray, List.getElem?_cons_zero, List.getElem?_cons_succ] at r4 d0 d1 d4 pp0
  have hPA1 := hPA.below hb1
  have c := hPC A _ hPA1 (fun k hk => by have := hA k hk; simp; omega)
  have hK := blk_b h.bs hb1
  have hL1 := hL.turned (Turned.of_below hb1 (fun _ => False)) (fun h => h)
  obtain ⟨cs, hcs⟩ := hL1.tag
  have ngm : gb ≠ m := hPA1.ru.ne_m hcs
  obtain ⟨cur, hgp, _⟩ := hPA1.pics
  have ngp : gb ≠ gp := tag_ne hcs hgp (by decide)
  have nP : ¬ (w.heap.size = m ∨ w.heap.size = gp) := by
    have := hPA1.ru.ne_m P1
    have := tag_ne P1 hgp (by decide)
    omega
  have nK : ¬ (bb = m ∨ bb = gp) := by have := hPA1.ru.ne_m hK; omega
  have nb1 : bb ≠ gb := tag_ne hK hcs (by decide)
  have nb2 : w.heap.size ≠ gb := tag_ne P1 hcs (by decide)
  obtain ⟨pm, pt, po, pb', pbs⟩ := p
  simp only at *
  subst hj
  obtain ⟨o', rfl⟩ : ∃ o' : Nat, po = o' := ⟨po.toNat, by omega⟩
  rcases hsl.below hb1 with ⟨e1, e2⟩ | ⟨g, o, cap, e1, hcap, hg, hc⟩
  · rw [e2] at hlt; simp at hlt
  · cases e1
    have m0 := hc j x hx 0 (by omega)
    simp only [mbCells, Nat.add_zero, List.getElem?_cons_zero] at m0
    have HB : Hid (Below _ _ _) := hb1
    have HL1 : Hid (ByB _ gb n L) := hL1
    have HP1 : Hid (_ = _) := P1
    have HK : Hid (_ = _) := hK
    have HA : Hid (A gb) := hAg
    clear h hb1 hc hx P1 hL hL1 hsl hcs hgp hPA hPA1 hPC hA hK
    go_enter Tryz.func110, Tryz.ntmps110
    go_upto_region 1 with fail
    refine (?_ : Code.wp _ _ _ _ (w.alloc (.cells #[.int .i64 (j : Int), .int .i64 pt, .int .i64 (o' : Int), .int .i64 pb', .int .i64 pbs] TPl)))
    generalize w.alloc (.cells #[.int .i64 (j : Int), .int .i64 pt, .int .i64 (o' : Int), .int .i64 pb', .int .i64 pbs] TPl) = W1 at *
    go_wp2_with fail
    refine c.mono ?_
    rintro e w2 ⟨g2, cap2, L2, rfl, hc2, hB2, hnA, hP2, hPA2, ht2⟩
    have HPA : Hid (PA w0 b rb m pb gp rs M H A w2) := hPA2
    have HB2 : Hid (ByB w2 g2 L2.length L2) := hB2
    have HLL : Hid (ByB w2 gb n L) := HL1.out.turned ht2 (by omega)
    have HP : Hid (PicOf M H pt L2) := hP2
    have HT2 : Hid (Turned w w2 (fun k => k = m ∨ k = gp ∨ k = gb)) := (Turned.of_below HB.out _).trans ht2 (fun k _ e => by omega)
    have K2 : Hid (_ = _) := blk_t HK.out ht2 nK
    have B2 : Hid (_ = _) := blk_t HP1.out ht2 nP
    have ng2 : g2 ≠ gb := fun e => hnA (e ▸ HA.out)
    have hl2 : o' + L2.length ≤ n := by have := hP2.1; omega
    clear c hB2 hP2 hPA2 ht2 HL1 HK HP1 HB r4 d0 d1 d4 pp0 m0 hnA
    go_wp2
    go_loopw [12] (fun iv wr => ∃ (i : Nat) (L' : List UInt8), i ≤ L2.length ∧ iv = .int .i64 (i : Int) ∧ Hid (L'.length = n) ∧ Hid (ByB wr gb n L') ∧ Hid (Turned w2 wr (fun k => k = gb)) ∧ Hid (∀ k : Nat, bitB L' k = (bitB L k || (decide (8 * o' ≤ k) && decide (k < 8 * (o' + i)) && bitB L2 (k - 8 * o'))))) (fun iv _ => L2.length - (intOf iv).toNat)
    case atStart => exact ⟨0, L, Nat.zero_le _, rfl, hLn, HLL, Turned.refl _ _, fun k => by simp; omega⟩
    case round =>
      obtain ⟨i, L', hi, rfl, HLn, HB', HT', HK'⟩ := hrel
      by_cases hil : i < L2.length
      · obtain ⟨y, hy⟩ : ∃ y, L2[i]? = some y := ⟨_, List.getElem?_eq_getElem hil⟩
        obtain ⟨z, hz⟩ : ∃ z, L'[o' + i]? = some z := ⟨_, List.getElem?_eq_getElem (by have := HLn.out; omega)⟩
        have c0 := (HB2.out.turned HT'.out ng2).cell hy
        have c1 := HB'.out.cell hz
        have f1 := HB'.out.frozen (o' + i)
        have k0 := Lib.cell_of_heap (blk_t K2.out HT'.out nb1) 0
        have d2 := Lib.cell_of_heap (blk_t B2.out HT'.out nb2) 2
        simp only [List.getElem?_toArray, List.getElem?_cons_zero, List.getElem?_cons_succ] at k0 d2
        have HY : Hid (L2[i]? = some y) := hy
        have HZ : Hid (L'[o' + i]? = some z) := hz
        clear hy hz
        go_wp2
        refine ⟨⟨i + 1, L'.set (o' + i) (z ||| y), by omega, by go_num, (by rw [List.length_set]; exact HLn.out), ?_, HT'.out.trans (Turned.setCell (S := fun k => k = gb) wr gb _ _ rfl) (fun _ _ e => e), ?_⟩, by simp [intOf]; omega⟩
        · show ByB _ gb n _
          rw [or_u8]
          exact HB'.out.set _ _
        · intro k
          rw [bit_set HZ.out, HK'.out k]
          by_cases h1 : k / 8 = o' + i
          · have e1 : bitB L2 (k - 8 * o') = y.toNat.testBit (k % 8) := by
              unfold bitB
              rw [show (k - 8 * o') / 8 = i by omega, show (k - 8 * o') % 8 = k % 8 by omega, HY.out]; rfl
            have e2 : (decide (8 * o' ≤ k) && decide (k < 8 * (o' + i))) = false := by rw [Bool.eq_false_iff]; simp; omega
            have e3 : (decide (8 * o' ≤ k) && decide (k < 8 * (o' + (i + 1)))) = true := by simp; omega
            rw [e1, e2, e3]; simp [h1]
          · have e2 : (decide (8 * o' ≤ k) && decide (k < 8 * (o' + (i + 1)))) = (decide (8 * o' ≤ k) && decide (k < 8 * (o' + i))) := by rw [Bool.eq_iff_iff]; simp; omega
            rw [e2]; simp [h1]
      · obtain rfl : i = L2.length := by omega
        go_wp2
        go_end0
        have tt := HT2.out.trans HT'.out (fun k _ e => .inr (.inr e))
        have hU := HPA.out.ru.turned HT'.out (fun k e => by omega) (fun e => by obtain ⟨cs, hcs⟩ := HLL.out.tag; exact tag_ne hcs HPA.out.ru.ru (by decide) e.symm) (fun e => ngm e.symm)
        refine ⟨rfl, HPA.out.keep hU HT'.out ?_ ?_ ?_ (fun _ _ e => e), tt, L', HLn.out, HB'.out, fun k => ?_⟩
        · intro e; obtain ⟨cs, hcs⟩ := HLL.out.tag; exact tag_ne hcs HPA.out.pt (by decide) e.symm
        · exact fun e => ngp e.symm
        · intro q cs _ hq e; exact hq (e ▸ HA.out)
        · rw [HK'.out k]
          congr 1
          obtain ⟨p1, p2⟩ := HP.out
          by_cases h1 : 8 * o' ≤ k ∧ k < 8 * (o' + L2.length)
          · rw [p2 (k - 8 * o') (by omega)]
            have e1 : (8 * (o' : Int)).toNat = 8 * o' := by omega
            rw [e1]
            congr 1
            rw [Bool.eq_iff_iff]; simp; omega
          · have e1 : (decide (8 * o' ≤ k) && decide (k < 8 * (o' + L2.length))) = false := by
              rw [Bool.eq_false_iff]; simp; omega
            have e2 : (decide (8 * (o' : Int) ≤ k) && decide ((k : Int) < 8 * ((o' : Int) + (M pt).size))) = false := by
              rw [Bool.eq_false_iff]; simp; omega
            rw [e1, e2]; rfl
end
end Go.Proofs.YtlcghlfmaohfeaaGreat
namespace Go.Proofs.YtlcghlfmaohfeaaGreat
open Go.RowKit Go.Maps
set_option linter.unusedVariables false
set_option maxRecDepth 100000
section
variable {w : World} {ob bb pp gb n pb : Nat}
set_option maxHeartbeats 4000000 in
theorem paint1_e (p : Pl) (r : Rw) {sp : Option Addr} {sc : Nat} (h : PnB ob bb pp gb n pb #[.int .i64 r.kind, .int .i64 r.elem, .int .i64 r.len, .string r.tag, .slice sp r.mem.length sc, .bool r.done] w) (hsl : MemSl w (.slice sp r.mem.length sc) r.mem) {j : Nat} {x : Mb} (hj : p.mem = j) (hx : r.mem[j]? = some x) (hn64 : r.mem.length ≤ 64) (hnm : (x.name.toList == []) = true) :
    Calls Tryz.prog 110 #[.agg (plV p), .pointer (some ⟨ob, 0, none⟩), .pointer (some ⟨bb, 0, none⟩), .pointer (some ⟨pp, 0, none⟩)] w fun e w' => e = .returned (.tuple #[]) ∧ Below w.heap.size w w' := by
  have hlt : j < r.mem.length := (List.getElem?_eq_some_iff.1 hx).1
  have hb1 := below1 w (.cells #[.int .i64 p.mem, .int .i64 p.type, .int .i64 p.off, .int .i64 p.bit, .int .i64 p.bits] TPl)
  have r4 := Lib.cell_of_heap (blk_b h.row hb1) 4
  have P1 := heap_r0 w (.cells #[.int .i64 p.mem, .int .i64 p.type, .int .i64 p.off, .int .i64 p.bit, .int .i64 p.bits] TPl)
  have d0 := Lib.cell_of_heap P1 0
  simp only [List.getElem?_toArray, List.getElem?_cons_zero, List.getElem?_cons_succ] at r4 d0
  rw [hj] at d0 P1
  rcases hsl.below hb1 with ⟨e1, e2⟩ | ⟨g, o, cap, e1, hcap, hg, hc⟩
  · rw [e2] at hlt; simp at hlt
  · cases e1
    have m0 := hc j x hx 0 (by omega)
    simp only [mbCells, Nat.add_zero, List.getElem?_cons_zero] at m0
    have HB : Hid (Below _ _ _) := hb1
    obtain ⟨pm, pt, po, pb, pbs⟩ := p
    simp only at hj
    subst hj
    have hne : x.name.toList = [] := by simpa using hnm
    clear h hb1 hc hx P1 hnm
    go_enter Tryz.func110, Tryz.ntmps110
    go_wp2
    go_end0
    exact ⟨rfl, HB.out⟩
end
end Go.Proofs.YtlcghlfmaohfeaaGreat
namespace Go.Proofs.YtlcghlfmaohfeaaGreat
open Go.RowKit Go.Maps
set_option linter.unusedVariables false
set_option maxRecDepth 100000
/-- The painter without its ruler. -/
structure PQ (rb pb gp : Nat) (rs : List (Rw × Value)) (M : Int → Ex) (H : Int → Nat → Bool) (A : Nat → Prop) (W : World) : Prop where
  pt : W.heap[pb]? = some (.cells #[.pointer (some ⟨rb, 0, none⟩), .slice (some ⟨gp, 0, none⟩) rs.length rs.length] TPt (0, 0))
  pics : ∃ cur : Array Value, W.heap[gp]? = some (.cells cur TBy (0, 0)) ∧ cur.size = rs.length ∧ ∀ i v, cur[i]? = some v → PicAt rs M H A W i v
section
variable {w0 : World} {b rb m pb gp : Nat} {rs : List (Rw × Value)} {M : Int → Ex} {H : Int → Nat → Bool} {A A' : Nat → Prop} {W w w' : World}
theorem not3 {g a b c : Nat} (h : g ≠ a ∧ g ≠ b ∧ g ≠ c) : ¬ (g = a ∨ g = b ∨ g = c) := by omega
theorem PA.q (h : PA w0 b rb m pb gp rs M H A W) : PQ rb pb gp rs M H A W := ⟨h.pt, h.pics⟩
theorem PQ.pa (h : PQ rb pb gp rs M H A W) (hU : RU w0 b rb m rs M W) : PA w0 b rb m pb gp rs M H A W := ⟨hU, h.pt, h.pics⟩
theorem PQ.keep (h : PQ rb pb gp rs M H A W) {S : Nat → Prop} (ht : Turned W w' S) (h1 : ¬ S pb) (h2 : ¬ S gp) (hS : ∀ g cs, W.heap[g]? = some (.cells cs 5 (0, 0)) → ¬ A g → ¬ S g) (hA : ∀ k, k < W.heap.size → A' k → A k) : PQ rb pb gp rs M H A' w' := by
  obtain ⟨cur, q1, q2, q3⟩ := h.pics
  exact ⟨blk_t h.pt ht h1, cur, blk_t q1 ht h2, q2, fun i v hv => (q3 i v hv).keep ht hS hA⟩
theorem PnB.turned {ob bb pp gb n : Nat} {row : Array Value} {S : Nat → Prop} (h : PnB ob bb pp gb n pb row W) (ht : Turned W w' S) (h1 : ¬ S ob) (h2 : ¬ S bb) (h3 : ¬ S pp) : PnB ob bb pp gb n pb row w' :=
  ⟨blk_t h.row ht h1, blk_t h.bs ht h2, blk_t h.pt ht h3⟩
/-- What the first members have. -/
def anyP (M : Int → Ex) (H : Int → Nat → Bool) (r : Rw) (l : List Mb) (k : Nat) : Bool := (placesS (r.kind == 16) M ls0 0 l).any (fun P => hitsP M H r.mem P k)
/-- The state while members are painted. -/
structure PI (w0 : World) (b rb m pb gp : Nat) (rs : List (Rw × Value)) (M : Int → Ex) (H : Int → Nat → Bool) (A : Nat → Prop) (ob bb pp gb n bs : Nat) (r : Rw) (sp : Option Addr) (sc : Nat) (j : Nat) (W : World) : Prop where
  box : PnB ob bb pp gb n pb #[.int .i64 r.kind, .int .i64 r.elem, .int .i64 r.len, .string r.tag, .slice sp r.mem.length sc, .bool r.done] W
  mem : W.ownsRow bs TM 3 (.slice sp r.mem.length sc) r.mem.length (memCells r.mem)
  pq : PQ rb pb gp rs M H A W
  by' : ∃ L : List UInt8, L.length = n ∧ ByB W gb n L ∧ ∀ k, bitB L k = anyP M H r (r.mem.take j) k
theorem placesS_append {un : Bool} {M : Int → Ex} : ∀ (l l2 : List Mb) (s : Ls) (i : Nat), placesS un M s i (l ++ l2) = placesS un M s i l ++ placesS un M (layS un M s l) (i + l.length) l2
  | [], l2, s, i => by simp [placesS, layS]
  | a :: l, l2, s, i => by
    simp only [List.cons_append, placesS, layS, List.append_assoc]
    rw [placesS_append l l2 _ (i + 1), show i + (a :: l).length = i + 1 + l.length by simp; omega]
theorem spot_in {un : Bool} {M : Int → Ex} {l : List Mb} {j : Nat} {x : Mb} (hx : l[j]? = some x) (hb : ¬ x.bits = 0) : spotP (beginP (if un then 0 else (layS un M ls0 (l.take j)).place) x (M x.type)) j x (M x.type) ∈ placesS un M ls0 0 l := by
  have hlt : j < l.length := (List.getElem?_eq_some_iff.1 hx).1
  have e : l = l.take (j + 1) ++ l.drop (j + 1) := (List.take_append_drop _ _).symm
  rw [e, placesS_append, List.mem_append]
  left
  have e2 : (l.take (j + 1) ++ l.drop (j + 1)).take j = l.take j := by rw [List.take_append_drop]
  rw [take_snoc hx, placesS_snoc, if_neg hb, List.mem_append]
  right
  rw [List.length_take, Nat.min_eq_left (by omega), Nat.zero_add]
  rw [← take_snoc hx, e2]
  simp
theorem spot_type (q : Int) (j : Nat) (x : Mb) (e : Ex) : (spotP q j x e).type = x.type := by unfold spotP; split <;> rfl
theorem spot_bits (q : Int) (j : Nat) (x : Mb) (e : Ex) (h0 : ¬ x.bits = 0) (hb : BitsOK x e) : (0 < (spotP q j x e).bits ∧ x.bits ≠ -1) ∨ (¬ 0 < (spotP q j x e).bits ∧ x.bits = -1) := by
  unfold spotP
  rcases hb with hb | hb
  · rw [if_pos hb]; right; exact ⟨by simp, hb⟩
  · rw [if_neg (by omega)]; left; exact ⟨by simp only; omega, by omega⟩
theorem lay_pic {ob bb pp gb n bs : Nat} {wE : World} (hRU : RU w0 b rb m rs M wE) (hw0 : w0.heap.size ≤ m) (hrm : rb ≠ m) (r : Rw) {sp : Option Addr} {sc : Nat} (hn : r.mem.length ≤ 64)
    (hmem : ∀ x ∈ r.mem, MC w0 b rb m rs M x.type ∧ ExOK (M x.type) ∧ BitsOK x (M x.type)) (hPC : ∀ x ∈ r.mem, x.bits = -1 → PC w0 b rb m pb gp rs M H x.type)
    (hA : ∀ k, A k → k < wE.heap.size) (hAg : A gb) (hAm : A m) (hg0 : w0.heap.size ≤ gb) (hgp0 : w0.heap.size ≤ gp) (hbg : bb ≠ gp) (hn16 : n ≤ 16384)
    (hpl : ∀ P ∈ placesS (r.kind == 16) M ls0 0 r.mem, 0 ≤ P.off ∧ 0 ≤ P.bit ∧ (0 < P.bits → 8 * P.off + P.bit + P.bits ≤ 8 * n) ∧ (¬ 0 < P.bits → P.off + (M P.type).size ≤ n))
    (hI : PI w0 b rb m pb gp rs M H A ob bb pp gb n bs r sp sc 0 wE) :
    Calls Tryz.prog 31 #[.pointer (some ⟨rb, 0, none⟩), .agg #[.int .i64 r.kind, .int .i64 r.elem, .int .i64 r.len, .string r.tag, .slice sp r.mem.length sc, .bool r.done], .func (.func 110) #[] #[.pointer (some ⟨ob, 0, none⟩), .pointer (some ⟨bb, 0, none⟩), .pointer (some ⟨pp, 0, none⟩)]] wE
      fun e w' => e = .returned (exV (endP (layS (r.kind == 16) M ls0 r.mem))) ∧ RU w0 b rb m rs M w' ∧ PI w0 b rb m pb gp rs M H A ob bb pp gb n bs r sp sc r.mem.length w' ∧ Turned wE w' (fun k => k = m ∨ k = gp ∨ k = gb) := by
  have hmn : ∀ {g : Nat} {c : Array Value} {t : TypeId}, wE.heap[g]? = some (.cells c t (0, 0)) → g ≠ m := fun hg => hRU.ne_m hg
  obtain ⟨L0, _, hB0, _⟩ := hI.by'
  obtain ⟨cs0, hcs0⟩ := hB0.tag
  obtain ⟨cur0, hgp, _⟩ := hI.pq.pics
  have hm := hRU.lt
  have lg := hB0.lt
  have lp := lt_of_heap hgp
  have ng : gb ≠ m := hmn hcs0
  have nob : ob ≠ m ∧ ob ≠ gp ∧ ob ≠ gb := ⟨hmn hI.box.row, tag_ne hI.box.row hgp (by decide), tag_ne hI.box.row hcs0 (by decide)⟩
  have nbb : bb ≠ m ∧ bb ≠ gp ∧ bb ≠ gb := ⟨hmn hI.box.bs, hbg, tag_ne hI.box.bs hcs0 (by decide)⟩
  have npp : pp ≠ m ∧ pp ≠ gp ∧ pp ≠ gb := ⟨hmn hI.box.pt, tag_ne hI.box.pt hgp (by decide), tag_ne hI.box.pt hcs0 (by decide)⟩
  have npb : pb ≠ m ∧ pb ≠ gb := ⟨hmn hI.pq.pt, tag_ne hI.pq.pt hcs0 (by decide)⟩
  have ngp : gp ≠ m ∧ gp ≠ gb := ⟨hmn hgp, tag_ne hgp hcs0 (by decide)⟩
  have nrb : rb ≠ gp ∧ rb ≠ gb := ⟨tag_ne hRU.ru hgp (by decide), tag_ne hRU.ru hcs0 (by decide)⟩
  have hslb : ∀ k, (Value.slice sp r.mem.length sc).ownBlock = some k → k ≠ m ∧ k ≠ gp ∧ k ≠ gb := by
    intro k hk
    obtain ⟨_, cur, hc⟩ := ownsRow_at hI.mem hk
    exact ⟨hmn hc, tag_ne hc hgp (by decide), tag_ne hc hcs0 (by decide)⟩
  refine (lay_paint hRU hw0 hrm r (MemSl.of_own hI.mem) hn hmem (ob := ob) (bb := bb) (pp := pp) (fun k => k = m ∨ k = gp ∨ k = gb) (.inl rfl) (fun k hk => by omega) ?_
    (fun j W => PI w0 b rb m pb gp rs M H A ob bb pp gb n bs r sp sc j W) hI ?_ ?_ ?_)
  · rintro g o rfl hg
    have := hslb g (by rfl)
    omega
  · rintro j w1 w2 h ht
    have tx : ∀ {g : Nat} {c : Array Value} {t : TypeId}, w1.heap[g]? = some (.cells c t (0, 0)) → t ≠ TX → g ≠ m → ¬ (g = m ∨ ∃ cs, w1.heap[g]? = some (.cells cs TX (0, 0))) := by
      rintro g c t hg ht1 hgm (e | ⟨cs, e⟩)
      · exact hgm e
      · exact tag_ne hg e ht1 rfl
    obtain ⟨cur, q1, _⟩ := h.pq.pics
    obtain ⟨L, l1, l2, l3⟩ := h.by'
    obtain ⟨cs, hcs⟩ := l2.tag
    refine ⟨h.box.turned ht (tx h.box.row (by decide) nob.1) (tx h.box.bs (by decide) nbb.1) (tx h.box.pt (by decide) npp.1), ownsRow_turned h.mem ht (fun k hk => ?_), h.pq.keep ht (tx h.pq.pt (by decide) npb.1) (tx q1 (by decide) ngp.1) ?_ (fun _ _ e => e), L, l1, l2.turned ht (tx hcs (by decide) ng), l3⟩
    · obtain ⟨_, cur, hc⟩ := ownsRow_at h.mem hk
      exact tx hc (by decide) (hslb k hk).1
    · rintro g cs hg hq (e | ⟨cs', e⟩)
      · exact hq (e ▸ hAm)
      · exact tag_ne hg e (by decide) rfl
  · rintro j x w1 hx hb h
    refine ⟨h.box, h.mem, h.pq, ?_⟩
    obtain ⟨L, l1, l2, l3⟩ := h.by'
    refine ⟨L, l1, l2, ?_⟩
    unfold anyP at *
    rw [take_snoc hx, placesS_snoc, if_pos hb, List.append_nil]
    exact l3
  · rintro j x w1 hx hb hU h ht
    have hlt : j < r.mem.length := (List.getElem?_eq_some_iff.1 hx).1
    have hin := spot_in (un := r.kind == 16) (M := M) hx hb
    have hsp := spot_mem' (beginP (if (r.kind == 16) = true then 0 else (layS (r.kind == 16) M ls0 (List.take j r.mem)).place) x (M x.type)) j x (M x.type)
    have hst := spot_type (beginP (if (r.kind == 16) = true then 0 else (layS (r.kind == 16) M ls0 (List.take j r.mem)).place) x (M x.type)) j x (M x.type)
    have hsb := spot_bits (beginP (if (r.kind == 16) = true then 0 else (layS (r.kind == 16) M ls0 (List.take j r.mem)).place) x (M x.type)) j x (M x.type) hb (hmem x (List.mem_of_getElem? hx)).2.2
    have hnx : ∀ k, anyP M H r (r.mem.take (j + 1)) k = (anyP M H r (r.mem.take j) k || hitsP M H r.mem (spotP (beginP (if (r.kind == 16) = true then 0 else (layS (r.kind == 16) M ls0 (List.take j r.mem)).place) x (M x.type)) j x (M x.type)) k) := by
      intro k
      unfold anyP
      rw [take_snoc hx, placesS_snoc, if_neg hb, List.length_take, Nat.min_eq_left (by omega), Nat.zero_add]
      simp
    obtain ⟨h1, h2, h3, h4⟩ := hpl _ hin
    generalize spotP (beginP (if (r.kind == 16) = true then 0 else (layS (r.kind == 16) M ls0 (List.take j r.mem)).place) x (M x.type)) j x (M x.type) = P at *
    have hat : r.mem[P.mem.toNat]? = some x := by rw [hsp, Int.toNat_natCast]; exact hx
    obtain ⟨L, l1, l2, l3⟩ := h.by'
    cases hnm : (x.name.toList == []) with
    | true =>
      refine (paint1_e P r h.box (MemSl.of_own h.mem) hsp hx hn hnm).mono ?_
      rintro e w2 ⟨rfl, hb2⟩
      have hh : ∀ k, hitsP M H r.mem P k = false := fun k => by simp only [hitsP, hat, hnm]; rfl
      have tb := Turned.of_below hb2 (fun _ => False)
      refine ⟨rfl, hU.kept hb2, ⟨h.box.turned tb id id id, ownsRow_turned h.mem tb (fun _ _ h => h.elim), h.pq.keep tb id id (fun _ _ _ _ => id) (fun _ _ e => e), L, l1, l2.turned tb id, fun k => ?_⟩, Turned.of_below hb2 _⟩
      rw [hnx, hh, Bool.or_false]; exact l3 k
    | false =>
      rcases hsb with ⟨hb1, hb2⟩ | ⟨hb1, hb2⟩
      · refine (paint1_b P r h.box (MemSl.of_own h.mem) hsp hx hn hnm hb1 h1 h2 hn16 (h3 hb1) L l2 l1).mono ?_
        rintro e w2 ⟨rfl, t2, L', l1', l2', l3'⟩
        refine ⟨rfl, hU.turned t2 (fun k e => by omega) (fun e => nrb.2 e) (fun e => ng e.symm), ⟨h.box.turned t2 nob.2.2 nbb.2.2 npp.2.2, ownsRow_turned h.mem t2 (fun k hk => (hslb k hk).2.2), h.pq.keep t2 npb.2 ngp.2 (fun g cs _ hq e => hq (e ▸ hAg)) (fun _ _ e => e), L', l1', l2', fun k => ?_⟩, t2.mono (fun k e => .inl (.inr (.inr e)))⟩
        rw [hnx, l3', l3]
        congr 1
        simp only [hitsP, hat, hnm, Bool.not_false, Bool.true_and, if_pos hb1]
      · have hPCx : PC w0 b rb m pb gp rs M H P.type := by rw [hst]; exact hPC x (List.mem_of_getElem? hx) hb2
        refine (paint1_d P r h.box (MemSl.of_own h.mem) hsp hx hn hnm hb1 h1 hn16 (h4 hb1) L l2 l1 hPCx (h.pq.pa hU) (fun k hk => Nat.lt_of_lt_of_le (hA k hk) ht.size) hAg hbg hg0).mono ?_
        rintro e w2 ⟨rfl, hPA2, t2, L', l1', l2', l3'⟩
        refine ⟨rfl, hPA2.ru, ⟨h.box.turned t2 (not3 nob) (not3 nbb) (not3 npp), ownsRow_turned h.mem t2 (fun k hk => not3 (hslb k hk)), hPA2.q, L', l1', l2', fun k => ?_⟩, t2.mono (fun k e => .inl e)⟩
        rw [hnx, l3', l3]
        congr 1
        simp only [hitsP, hat, hnm, Bool.not_false, Bool.true_and, if_neg hb1]
end
end Go.Proofs.YtlcghlfmaohfeaaGreat
namespace Go.Proofs.YtlcghlfmaohfeaaGreat
open Go.RowKit Go.Maps
set_option linter.unusedVariables false
set_option maxRecDepth 100000
section
variable {w0 w : World} {b rb m pb gp : Nat} {rs : List (Rw × Value)} {M : Int → Ex} {H : Int → Nat → Bool} {A : Nat → Prop}
theorem nought_bits (n k : Nat) : bitB (List.replicate n 0) k = false := by
  unfold bitB
  rw [List.getElem?_replicate]
  split <;> simp
theorem PI.drew {ob bb pp gb n bs : Nat} {r : Rw} {sp : Option Addr} {sc j : Nat} {W : World} (h : PI w0 b rb m pb gp rs M H A ob bb pp gb n bs r sp sc j W) : PI w0 b rb m pb gp rs M H A ob bb pp gb n bs r sp sc j W.drew :=
  ⟨⟨h.box.row, h.box.bs, h.box.pt⟩, h.mem, ⟨h.pq.pt, h.pq.pics⟩, h.by'⟩
theorem infoU8 : (Tryz.prog.info? 5).map (fun i => (i.zero, i.size, i.bytes)) = some (some (.int .u8 0), 1, 1) := by kernel_rfl
theorem make_by (W : World) (n : Nat) (hn : n ≤ 16777216) : ∃ W', (Instr.makeSlice TBy (.int .i64 (n : Int)) (.int .i64 (n : Int))).run Tryz.prog W = .ok (.slice (some ⟨W.heap.size, 0, none⟩) n n) W' ∧ ByB W' W.heap.size n (List.replicate n 0) ∧ Below W.heap.size W W' ∧ W'.heap.size = W.heap.size + 1 := by
  obtain ⟨i0, hi, hz0, hz1, hz2⟩ := info_parts infoU8
  have hr := run_makeSlice W TBy 5 i0 (.int .u8 0) Tryz.underlying103 hi hz0 .i64 .i64 (n : Int) (n : Int) (by omega) (by omega) (by rw [hz1, Int.toNat_natCast]; omega) (by rw [hz2]; omega) (by omega)
  rw [hz1, Int.toNat_natCast, Nat.mul_one] at hr
  refine ⟨_, hr, ⟨_, heap_r0 W _, by rw [size_madeCells]; exact Nat.le_refl _, by simp, ?_⟩, below1 W _, by simp⟩
  rw [List.length_replicate]
  apply List.ext_getElem?
  intro k
  simp only [madeCells, byC, List.map_replicate, List.getElem?_take, Array.getElem?_toList, Array.getElem?_map, Array.getElem?_range, List.getElem?_replicate]
  by_cases hk : k < n
  · simp [hk, Value.cells, Nat.mod_one]
  · simp [hk]
/-- Nothing but the painter's blocks and one more has turned. -/
def SP (W0 : World) (m gp gb : Nat) (Y : World) : Prop := Turned W0 Y (fun k => k = m ∨ k = gp ∨ k = gb)
theorem SP.drew {W0 Y : World} {m gp gb : Nat} (h : SP W0 m gp gb Y) : SP W0 m gp gb Y.drew := ⟨h.os, h.tape, h.output, h.size, h.block⟩
theorem SP.turned {W0 Y Z : World} {m gp gb : Nat} (h : SP W0 m gp gb Y) (ht : Turned Y Z (fun k => k = m ∨ k = gp ∨ k = gb)) : SP W0 m gp gb Z := Turned.trans h ht (fun _ _ e => e)
theorem SP.cell {W0 Y : World} {m gp gb g j : Nat} {v : Value} {o : Obj} (h : SP W0 m gp gb Y) (hg : W0.heap[g]? = some o) (hne : ¬ (g = m ∨ g = gp ∨ g = gb)) (hc : W0.cell? ⟨g, j, none⟩ = some v) : Y.cell? ⟨g, j, none⟩ = some v :=
  (World.cell?_of_block (w := W0) (a := ⟨g, j, none⟩) (h.block g (lt_of_heap hg) hne)).trans hc
set_option maxHeartbeats 8000000 in
theorem paintRec_c (hPA : PA w0 b rb m pb gp rs M H A w) (hA : ∀ k, A k → k < w.heap.size) (hw0 : w0.heap.size ≤ m) (hgp0 : w0.heap.size ≤ gp) (hrm : rb ≠ m) (r : Rw) {sp : Option Addr} {sc bs : Nat} (hown : w.ownsRow bs TM 3 (.slice sp r.mem.length sc) r.mem.length (memCells r.mem)) (hn : r.mem.length ≤ 64)
    (hmem : ∀ x ∈ r.mem, MC w0 b rb m rs M x.type ∧ ExOK (M x.type) ∧ BitsOK x (M x.type)) (hPC : ∀ x ∈ r.mem, x.bits = -1 → PC w0 b rb m pb gp rs M H x.type) {n : Nat} (hn1 : 1 ≤ n) (hn16 : n ≤ 16384)
    (hpl : ∀ P ∈ placesS (r.kind == 16) M ls0 0 r.mem, 0 ≤ P.off ∧ 0 ≤ P.bit ∧ (0 < P.bits → 8 * P.off + P.bit + P.bits ≤ 8 * n) ∧ (¬ 0 < P.bits → P.off + (M P.type).size ≤ n)) :
    Calls Tryz.prog 92 #[.pointer (some ⟨pb, 0, none⟩), .agg #[.int .i64 r.kind, .int .i64 r.elem, .int .i64 r.len, .string r.tag, .slice sp r.mem.length sc, .bool r.done], .int .i64 (n : Int)] w
      fun e w' => ∃ (g cap : Nat) (L : List UInt8), e = .returned (.slice (some ⟨g, 0, none⟩) n cap) ∧ n ≤ cap ∧ w.heap.size ≤ g ∧ L.length = n ∧ ByB w' g n L ∧ (∀ k, bitB L k = anyP M H r r.mem k) ∧ PA w0 b rb m pb gp rs M H A w' ∧ Turned w w' (fun k => k = m ∨ k = gp) := by
  have b1 := two_boxes w #[.pointer (some ⟨pb, 0, none⟩)] #[.int .i64 r.kind, .int .i64 r.elem, .int .i64 r.len, .string r.tag, .slice sp r.mem.length sc, .bool r.done] TPtP TR
  have g1 := heap_s1 w (.cells #[.pointer (some ⟨pb, 0, none⟩)] TPtP) (.cells #[.int .i64 r.kind, .int .i64 r.elem, .int .i64 r.len, .string r.tag, .slice sp r.mem.length sc, .bool r.done] TR)
  have g2 := heap_s2 w (.cells #[.pointer (some ⟨pb, 0, none⟩)] TPtP) (.cells #[.int .i64 r.kind, .int .i64 r.elem, .int .i64 r.len, .string r.tag, .slice sp r.mem.length sc, .bool r.done] TR)
  have hz1 : ((w.alloc (.cells #[.pointer (some ⟨pb, 0, none⟩)] TPtP)).alloc (.cells #[.int .i64 r.kind, .int .i64 r.elem, .int .i64 r.len, .string r.tag, .slice sp r.mem.length sc, .bool r.done] TR)).heap.size = w.heap.size + 2 := by simp
  obtain ⟨W2, hmk, B2, b2, hz2⟩ := make_by ((w.alloc (.cells #[.pointer (some ⟨pb, 0, none⟩)] TPtP)).alloc (.cells #[.int .i64 r.kind, .int .i64 r.elem, .int .i64 r.len, .string r.tag, .slice sp r.mem.length sc, .bool r.done] TR)) n (by omega)
  rw [hz1] at hmk B2
  have b2' : Below w.heap.size w W2 := b1.trans (b2.mono b1.size)
  have b3 := below1 W2 (.cells #[.slice (some ⟨w.heap.size + 2, 0, none⟩) n n] TBy)
  have hold3 := heap_r0 W2 (.cells #[.slice none 0 0] TBy)
  have g3 := heap_r0 W2 (.cells #[.slice (some ⟨w.heap.size + 2, 0, none⟩) n n] TBy)
  have hb3 : Below w.heap.size w (W2.alloc (.cells #[.slice (some ⟨w.heap.size + 2, 0, none⟩) n n] TBy)) := b2'.trans (b3.mono b2'.size)
  have B3 := B2.turned (Turned.of_below b3 (fun _ => False)) id
  have G1 := blk_b (blk_b g1 b2) b3
  have G2 := blk_b (blk_b g2 b2) b3
  have PA3 := hPA.below hb3
  have O3 := ownsRow_turned hown (Turned.of_below hb3 (fun _ => False)) (fun _ _ h => h.elim)
  have hw2 : W2.heap.size = w.heap.size + 3 := by omega
  have hz3 : (W2.alloc (.cells #[.slice (some ⟨w.heap.size + 2, 0, none⟩) n n] TBy)).heap.size = w.heap.size + 4 := by simp; omega
  rw [hw2] at g3
  have hPQ : PQ rb pb gp rs M H (fun k => A k ∨ k = w.heap.size + 2 ∨ k = m) (W2.alloc (.cells #[.slice (some ⟨w.heap.size + 2, 0, none⟩) n n] TBy)) := by
    obtain ⟨cur, q1, q2, q3⟩ := hPA.pics
    refine ⟨PA3.pt, cur, blk_b q1 hb3, q2, fun i v hv => ?_⟩
    rcases q3 i v hv with e | ⟨g, cap, L, e1, e2, e3, e4, e5⟩
    · exact .inl e
    · obtain ⟨cs, hcs⟩ := e3.tag
      refine .inr ⟨g, cap, L, e1, e2, e3.turned (Turned.of_below hb3 (fun _ => False)) id, ?_, e5⟩
      rintro (h | h | h)
      · exact e4 h
      · have := e3.lt; omega
      · exact hPA.ru.ne_m hcs h
  have hm := hPA.ru.lt
  obtain ⟨cur0, hgp, _⟩ := hPA.pics
  have lgp := lt_of_heap hgp
  have lsz := hPA.ru.below.size
  have hI : PI w0 b rb m pb gp rs M H (fun k => A k ∨ k = w.heap.size + 2 ∨ k = m) (w.heap.size + 1) (w.heap.size + 3) w.heap.size (w.heap.size + 2) n bs r sp sc 0 (W2.alloc (.cells #[.slice (some ⟨w.heap.size + 2, 0, none⟩) n n] TBy)) :=
    ⟨⟨G2, g3, G1⟩, O3, hPQ, List.replicate n 0, by simp, B3, fun k => by rw [nought_bits]; simp [anyP, placesS]⟩
  have lpb := lt_of_heap hPA.pt
  have NB : ¬ (pb = m ∨ pb = gp ∨ pb = w.heap.size + 2) := by
    have e1 := hPA.ru.ne_m hPA.pt
    have e2 := tag_ne hPA.pt hgp (by decide)
    omega
  have HGP : Hid (w0.heap.size ≤ gp) := hgp0
  have hIv : Hid (PI w0 b rb m pb gp rs M H (fun k => A k ∨ k = w.heap.size + 2 ∨ k = m) (w.heap.size + 1) (w.heap.size + 3) w.heap.size (w.heap.size + 2) n bs r sp sc 0 (W2.alloc (.cells #[.slice (some ⟨w.heap.size + 2, 0, none⟩) n n] TBy))) := hI
  have HPA3 : Hid (PA w0 b rb m pb gp rs M H A (W2.alloc (.cells #[.slice (some ⟨w.heap.size + 2, 0, none⟩) n n] TBy))) := PA3
  have HB3 : Hid (Below w.heap.size w (W2.alloc (.cells #[.slice (some ⟨w.heap.size + 2, 0, none⟩) n n] TBy))) := hb3
  have c : Hid (∀ Y, Y = (W2.alloc (.cells #[.slice (some ⟨w.heap.size + 2, 0, none⟩) n n] TBy)).drew → Calls Tryz.prog 31 #[.pointer (some ⟨rb, 0, none⟩), .agg #[.int .i64 r.kind, .int .i64 r.elem, .int .i64 r.len, .string r.tag, .slice sp r.mem.length sc, .bool r.done], .func (.func 110) #[] #[.pointer (some ⟨w.heap.size + 1, 0, none⟩), .pointer (some ⟨w.heap.size + 3, 0, none⟩), .pointer (some ⟨w.heap.size, 0, none⟩)]] Y
      fun e w' => e = .returned (exV (endP (layS (r.kind == 16) M ls0 r.mem))) ∧ RU w0 b rb m rs M w' ∧ PI w0 b rb m pb gp rs M H (fun k => A k ∨ k = w.heap.size + 2 ∨ k = m) (w.heap.size + 1) (w.heap.size + 3) w.heap.size (w.heap.size + 2) n bs r sp sc r.mem.length w' ∧ Turned Y w' (fun k => k = m ∨ k = gp ∨ k = w.heap.size + 2)) := by
    rintro Y rfl
    refine lay_pic (wE := World.drew _) (PA3.ru.kept (Below.refl _ _).drew) hw0 hrm r hn hmem hPC ?_ (.inr (.inl rfl)) (.inr (.inr rfl)) (by omega) hgp0 (by omega) hn16 hpl hI.drew
    rintro k (h | h | h)
    · have := hA k h; show k < _; rw [show (World.drew (W2.alloc (.cells #[.slice (some ⟨w.heap.size + 2, 0, none⟩) n n] TBy))).heap.size = w.heap.size + 4 from hz3]; omega
    · show k < _; rw [show (World.drew (W2.alloc (.cells #[.slice (some ⟨w.heap.size + 2, 0, none⟩) n n] TBy))).heap.size = w.heap.size + 4 from hz3]; omega
    · show k < _; rw [show (World.drew (W2.alloc (.cells #[.slice (some ⟨w.heap.size + 2, 0, none⟩) n n] TBy))).heap.size = w.heap.size + 4 from hz3]; omega
  generalize hW3 : W2.alloc (.cells #[.slice (some ⟨w.heap.size + 2, 0, none⟩) n n] TBy) = W3 at *
  go_enter Tryz.func92, Tryz.ntmps92
  go_upto_region 1 with (fail)
  refine (?_ : Code.wp _ _ _ _ ((w.alloc (.cells #[.pointer (some ⟨pb, 0, none⟩)] TPtP)).alloc (.cells #[.int .i64 r.kind, .int .i64 r.elem, .int .i64 r.len, .string r.tag, .slice sp r.mem.length sc, .bool r.done] TR)))
  generalize (w.alloc (.cells #[.pointer (some ⟨pb, 0, none⟩)] TPtP)).alloc (.cells #[.int .i64 r.kind, .int .i64 r.elem, .int .i64 r.len, .string r.tag, .slice sp r.mem.length sc, .bool r.done] TR) = W1 at *
  have HG1 : Hid (_ = _) := G1
  have HG2 : Hid (_ = _) := G2
  have HG3 : Hid (_ = _) := g3
  have HPT : Hid (_ = _) := PA3.pt
  have HW3 : Hid (W2.alloc (.cells #[.slice (some ⟨w.heap.size + 2, 0, none⟩) n n] TBy) = W3) := hW3
  have HW2 : Hid (W2.heap.size = w.heap.size + 3) := hw2
  have HM : Hid (m < w.heap.size) := hm
  have HGL : Hid (gp < w.heap.size) := lgp
  clear hPA hA hown hmem hPC hpl hrm hw0 hgp0 b1 g1 g2 hz1 B2 b2 hz2 b2' b3 hold3 g3 hb3 B3 G1 G2 PA3 O3 hw2 hz3 hPQ hm hgp lgp lsz hI lpb hW3 hn
  have hold3 := heap_r0 W2 (.cells #[.slice none 0 0] TBy)
  go_wp2_with (first | ((with_reducible apply step_store hold3); rfl; rfl; kernel_rfl; rfl; kernel_rfl; rw [World.setRow_alloc_new]) | fail)
  rw [HW2.out]
  refine (?_ : Code.wp _ _ _ _ (W2.alloc (.cells #[.slice (some ⟨w.heap.size + 2, 0, none⟩) n n] TBy)))
  rw [HW3.out]
  have N1 : ¬ (w.heap.size = m ∨ w.heap.size = gp ∨ w.heap.size = w.heap.size + 2) := by have := HM.out; have := HGL.out; omega
  have N2 : ¬ (w.heap.size + 1 = m ∨ w.heap.size + 1 = gp ∨ w.heap.size + 1 = w.heap.size + 2) := by have := HM.out; have := HGL.out; omega
  have L0 : ∀ Y, SP W3 m gp (w.heap.size + 2) Y → Y.cell? ⟨w.heap.size, 0, none⟩ = some (.pointer (some ⟨pb, 0, none⟩)) := fun Y h => h.cell HG1.out N1 (Lib.cell_of_heap HG1.out 0)
  have L1 : ∀ Y, SP W3 m gp (w.heap.size + 2) Y → Y.cell? ⟨pb, 0, none⟩ = some (.pointer (some ⟨rb, 0, none⟩)) := fun Y h => h.cell HPT.out NB (Lib.cell_of_heap HPT.out 0)
  have r0 : ∀ Y, SP W3 m gp (w.heap.size + 2) Y → Y.cell? ⟨w.heap.size + 1, 0, none⟩ = some (.int .i64 r.kind) := fun Y h => h.cell HG2.out N2 (Lib.cell_of_heap HG2.out 0)
  have r1 : ∀ Y, SP W3 m gp (w.heap.size + 2) Y → Y.cell? ⟨w.heap.size + 1, 1, none⟩ = some (.int .i64 r.elem) := fun Y h => h.cell HG2.out N2 (Lib.cell_of_heap HG2.out 1)
  have r2 : ∀ Y, SP W3 m gp (w.heap.size + 2) Y → Y.cell? ⟨w.heap.size + 1, 2, none⟩ = some (.int .i64 r.len) := fun Y h => h.cell HG2.out N2 (Lib.cell_of_heap HG2.out 2)
  have r3 : ∀ Y, SP W3 m gp (w.heap.size + 2) Y → Y.cell? ⟨w.heap.size + 1, 3, none⟩ = some (.string r.tag) := fun Y h => h.cell HG2.out N2 (Lib.cell_of_heap HG2.out 3)
  have r4 : ∀ Y, SP W3 m gp (w.heap.size + 2) Y → Y.cell? ⟨w.heap.size + 1, 4, none⟩ = some (.slice sp r.mem.length sc) := fun Y h => h.cell HG2.out N2 (Lib.cell_of_heap HG2.out 4)
  have r5 : ∀ Y, SP W3 m gp (w.heap.size + 2) Y → Y.cell? ⟨w.heap.size + 1, 5, none⟩ = some (.bool r.done) := fun Y h => h.cell HG2.out N2 (Lib.cell_of_heap HG2.out 5)
  have hmf : ∀ (x y z : Nat) (Y : World), (Instr.makeFunc (.func 110) #[] #[.pointer (some ⟨x, 0, none⟩), .pointer (some ⟨y, 0, none⟩), .pointer (some ⟨z, 0, none⟩)]).run Tryz.prog Y = .ok (.func (.func 110) #[] #[.pointer (some ⟨x, 0, none⟩), .pointer (some ⟨y, 0, none⟩), .pointer (some ⟨z, 0, none⟩)]) Y := fun x y z Y => by kernel_rfl
  have HSP : SP W3 m gp (w.heap.size + 2) W3 := Turned.refl _ _
  clear hmk hold3 HG1 HG2 HPT
  go_region_held3 (fun Y => SP W3 m gp (w.heap.size + 2) Y) (first | assumption | (with_reducible refine SP.drew ?_; assumption) | (with_reducible refine SP.turned ?_ (by assumption); assumption)) (first | (go_at_call 31; refine (c.out _ rfl).mono ?_; rintro e w4 ⟨rfl, hU4, hI4, ht4⟩; have HU4 : Hid (RU w0 b rb m rs M w4) := hU4; have HI4 : Hid (PI w0 b rb m pb gp rs M H (fun k => A k ∨ k = w.heap.size + 2 ∨ k = m) (w.heap.size + 1) (w.heap.size + 3) w.heap.size (w.heap.size + 2) n bs r sp sc r.mem.length w4) := hI4; have HT4 : Hid (Turned W3.drew w4 (fun k => k = m ∨ k = gp ∨ k = w.heap.size + 2)) := ht4; clear hU4 hI4))
  rename_i hHeld
  have c0 := Lib.cell_of_heap HI4.out.box.bs 0
  simp only [List.getElem?_toArray, List.getElem?_cons_zero] at c0
  have HH : Hid (SP W3 m gp (w.heap.size + 2) w4) := hHeld
  clear hHeld HSP L0 L1 r0 r1 r2 r3 r4 r5 hmf
  go_wp2
  go_ret
  obtain ⟨L, l1, l2, l3⟩ := HI4.out.by'
  have ht := (Turned.of_below HB3.out (fun k => k = m ∨ k = gp ∨ k = w.heap.size + 2)).trans HH.out (fun _ _ e => e)
  refine ⟨_, _, L, rfl, Nat.le_refl _, by omega, l1, l2, fun k => ?_, (HI4.out.pq.keep (Turned.refl _ (fun _ => False)) id id (fun _ _ _ _ => id) (fun k _ e => .inl e)).pa HU4.out, ⟨ht.os, ht.tape, ht.output, ht.size, fun k hk hn => ht.block k hk (by omega)⟩⟩
  rw [l3 k, List.take_of_length_le (Nat.le_refl _)]
end
end Go.Proofs.YtlcghlfmaohfeaaGreat
namespace Go.Proofs.YtlcghlfmaohfeaaGreat
open Go.RowKit Go.Maps
set_option linter.unusedVariables false
set_option maxRecDepth 100000
section
variable {w0 w : World} {b rb m pb gp : Nat} {rs : List (Rw × Value)} {M : Int → Ex} {H : Int → Nat → Bool} {A : Nat → Prop}
theorem rep_bits (l : List UInt8) (h1 : 1 ≤ l.length) : ∀ (c k : Nat), k < 8 * (c * l.length) → bitB (Lib.repeatL l c) k = bitB l (k % (8 * l.length))
  | 0, k, h => by omega
  | c + 1, k, h => by
    rw [Nat.add_comm, Lib.repeatL_add, Lib.repeatL_one]
    by_cases hk : k < 8 * l.length
    · rw [Nat.mod_eq_of_lt hk]
      unfold bitB
      rw [List.getElem?_append_left (by omega)]
    · have e1 : bitB (l ++ Lib.repeatL l c) k = bitB (Lib.repeatL l c) (k - 8 * l.length) := by
        unfold bitB
        rw [List.getElem?_append_right (by omega), show (k - 8 * l.length) / 8 = k / 8 - l.length by omega, show (k - 8 * l.length) % 8 = k % 8 by omega]
      have hlt : k - 8 * l.length < 8 * (c * l.length) := by rw [Nat.add_mul, Nat.one_mul] at h; omega
      rw [e1, rep_bits l h1 c _ hlt, ← Nat.mod_eq_sub_mod (by omega)]
theorem ff_bits (n k : Nat) (h : k < 8 * n) : bitB (List.replicate n 255) k = true := by
  unfold bitB
  rw [List.getElem?_replicate, if_pos (by omega)]
  have : k % 8 < 8 := Nat.mod_lt _ (by decide)
  generalize k % 8 = j at *
  show (255 : Nat).testBit j = true
  have : j = 0 ∨ j = 1 ∨ j = 2 ∨ j = 3 ∨ j = 4 ∨ j = 5 ∨ j = 6 ∨ j = 7 := by omega
  rcases this with rfl | rfl | rfl | rfl | rfl | rfl | rfl | rfl <;> decide
/-- What painted answers: a picture in a new block. -/
def PD (w0 : World) (b rb m pb gp : Nat) (rs : List (Rw × Value)) (M : Int → Ex) (H : Int → Nat → Bool) (A : Nat → Prop) (i : Nat) (w : World) (e : Ending) (w' : World) : Prop :=
  ∃ (g cap : Nat) (L : List UInt8), e = .returned (.slice (some ⟨g, 0, none⟩) L.length cap) ∧ L.length ≤ cap ∧ w.heap.size ≤ g ∧ ByB w' g L.length L ∧ PicOf M H i L ∧ PA w0 b rb m pb gp rs M H A w' ∧ Turned w w' (fun k => k = m ∨ k = gp)
set_option maxHeartbeats 8000000 in
theorem painted_int (hPA : PA w0 b rb m pb gp rs M H A w) (r : Rw) {sp : Option Addr} {sc : Nat} {i n : Nat} (h14 : (r.kind == 14) = false) (hk : recK r.kind = false) (hn1 : 1 ≤ n) (hn4 : n ≤ 16384) (hM : (M i).size = n) (hH : ∀ k, H i k = true) :
    Calls Tryz.prog 70 #[.pointer (some ⟨pb, 0, none⟩), .agg #[.int .i64 r.kind, .int .i64 r.elem, .int .i64 r.len, .string r.tag, .slice sp r.mem.length sc, .bool r.done], .int .i64 (n : Int)] w (PD w0 b rb m pb gp rs M H A i w) := by
  have b1 := below1 w (.cells #[.int .i64 r.kind, .int .i64 r.elem, .int .i64 r.len, .string r.tag, .slice sp r.mem.length sc, .bool r.done] TR)
  have N1 := heap_r0 w (.cells #[.int .i64 r.kind, .int .i64 r.elem, .int .i64 r.len, .string r.tag, .slice sp r.mem.length sc, .bool r.done] TR)
  have HB1 : Hid (Below _ _ _) := b1
  have HPA : Hid (PA w0 b rb m pb gp rs M H A w) := hPA
  have HN1 : Hid (_ = _) := N1
  clear b1 N1 hPA
  go_enter Tryz.func70, Tryz.ntmps70
  go_upto_region 1 with (fail)
  refine (?_ : Code.wp _ _ _ _ (w.alloc (.cells #[.int .i64 r.kind, .int .i64 r.elem, .int .i64 r.len, .string r.tag, .slice sp r.mem.length sc, .bool r.done] TR)))
  generalize w.alloc (.cells #[.int .i64 r.kind, .int .i64 r.elem, .int .i64 r.len, .string r.tag, .slice sp r.mem.length sc, .bool r.done] TR) = W1 at *
  have k0 := Lib.cell_of_heap HN1.out 0
  have k1 := Lib.cell_of_heap HN1.out 1
  have k2 := Lib.cell_of_heap HN1.out 2
  have k3 := Lib.cell_of_heap HN1.out 3
  have k4 := Lib.cell_of_heap HN1.out 4
  have k5 := Lib.cell_of_heap HN1.out 5
  simp only [List.getElem?_toArray, List.getElem?_cons_zero, List.getElem?_cons_succ] at k0 k1 k2 k3 k4 k5
  have cR := isRec_c r sp r.mem.length sc W1
  rw [hk] at cR
  go_wp2_with fail
  refine cR.mono ?_
  rintro e w2 ⟨rfl, hb2⟩
  have HB2 : Hid (Below W1.heap.size W1 w2) := hb2
  clear cR hb2 k0 k1 k2 k3 k4 k5
  have cRep := repeat_c [255] n ⟨w2.heap.size, 0, none⟩ 1 (w2.alloc (.cells #[.int .u8 255] 5)) (fun j x hx => by
    have hj : j < 1 := (List.getElem?_eq_some_iff.1 hx).1
    obtain rfl : j = 0 := by omega
    cases hx
    rw [show (⟨w2.heap.size, 0, none⟩ : Addr).add 0 = ⟨w2.heap.size, 0, none⟩ by unfold Addr.add; split <;> simp_all, Lib.cell_of_heap (heap_r0 w2 _)]; rfl) (by simp) hn1 (by simp; omega)
  have hone : ([255] : List UInt8).length = 1 := rfl
  rw [hone, Nat.one_mul] at cRep
  have b3 := below1 w2 (.cells #[.int .u8 255] 5)
  have HB3 : Hid (Below w2.heap.size w2 (w2.alloc (.cells #[.int .u8 255] 5))) := b3
  clear b3 hone
  go_wp2_with fail
  refine cRep.mono ?_
  rintro e w4 ⟨rfl, hB4, hb4⟩
  have HB4 : Hid (_) := hB4
  have Hb4 : Hid (Below _ _ w4) := hb4
  clear cRep hB4 hb4
  go_wp2
  go_ret
  have e1 : Below w.heap.size w w2 := HB1.out.trans (HB2.out.mono HB1.out.size)
  have e2 := e1.trans (HB3.out.mono e1.size)
  have e3 : Below w.heap.size w w4 := e2.trans (Hb4.out.mono e2.size)
  have e4 : Lib.repeatL [255] n = List.replicate n 255 := by have := Lib.repeatL_replicate 255 1 n; simpa using this
  have hlen : (List.replicate n (255 : UInt8)).length = n := by simp
  refine ⟨w2.heap.size + 1, n, List.replicate n 255, by rw [hlen]; rfl, by rw [hlen]; exact Nat.le_refl _, by have := e1.size; omega, ?_, ⟨by rw [hlen, hM], fun k hk => ?_⟩, HPA.out.below e3, Turned.of_below e3 _⟩
  · rw [hlen, ← e4]; have q := HB4.out; rw [show (w2.alloc (.cells #[.int .u8 255] 5)).heap.size = w2.heap.size + 1 by simp] at q; exact q
  · rw [hlen] at hk
    rw [ff_bits n k hk, hH]
set_option maxHeartbeats 8000000 in
theorem painted_rec (hPA : PA w0 b rb m pb gp rs M H A w) (hA : ∀ k, A k → k < w.heap.size) (hw0 : w0.heap.size ≤ m) (hgp0 : w0.heap.size ≤ gp) (hrm : rb ≠ m) (r : Rw) {sp : Option Addr} {sc bs : Nat} (hown : w.ownsRow bs TM 3 (.slice sp r.mem.length sc) r.mem.length (memCells r.mem)) (hn : r.mem.length ≤ 64)
    (hmem : ∀ x ∈ r.mem, MC w0 b rb m rs M x.type ∧ ExOK (M x.type) ∧ BitsOK x (M x.type)) (hPC : ∀ x ∈ r.mem, x.bits = -1 → PC w0 b rb m pb gp rs M H x.type) {n i : Nat} (hn1 : 1 ≤ n) (hn16 : n ≤ 16384)
    (hpl : ∀ P ∈ placesS (r.kind == 16) M ls0 0 r.mem, 0 ≤ P.off ∧ 0 ≤ P.bit ∧ (0 < P.bits → 8 * P.off + P.bit + P.bits ≤ 8 * n) ∧ (¬ 0 < P.bits → P.off + (M P.type).size ≤ n))
    (h14 : (r.kind == 14) = false) (hk : recK r.kind = true) (hM : (M i).size = n) (hH : ∀ k, H i k = anyP M H r r.mem k) :
    Calls Tryz.prog 70 #[.pointer (some ⟨pb, 0, none⟩), .agg #[.int .i64 r.kind, .int .i64 r.elem, .int .i64 r.len, .string r.tag, .slice sp r.mem.length sc, .bool r.done], .int .i64 (n : Int)] w (PD w0 b rb m pb gp rs M H A i w) := by
  have b1 := below1 w (.cells #[.int .i64 r.kind, .int .i64 r.elem, .int .i64 r.len, .string r.tag, .slice sp r.mem.length sc, .bool r.done] TR)
  have N1 := heap_r0 w (.cells #[.int .i64 r.kind, .int .i64 r.elem, .int .i64 r.len, .string r.tag, .slice sp r.mem.length sc, .bool r.done] TR)
  have HB1 : Hid (Below _ _ _) := b1
  have HN1 : Hid (_ = _) := N1
  have HC : Hid (∀ Y, Below w.heap.size w Y → Calls Tryz.prog 92 #[.pointer (some ⟨pb, 0, none⟩), .agg #[.int .i64 r.kind, .int .i64 r.elem, .int .i64 r.len, .string r.tag, .slice sp r.mem.length sc, .bool r.done], .int .i64 (n : Int)] Y
      fun e w' => ∃ (g cap : Nat) (L : List UInt8), e = .returned (.slice (some ⟨g, 0, none⟩) n cap) ∧ n ≤ cap ∧ Y.heap.size ≤ g ∧ L.length = n ∧ ByB w' g n L ∧ (∀ k, bitB L k = anyP M H r r.mem k) ∧ PA w0 b rb m pb gp rs M H A w' ∧ Turned Y w' (fun k => k = m ∨ k = gp)) := fun Y hY =>
    paintRec_c (hPA.below hY) (fun k hk => Nat.lt_of_lt_of_le (hA k hk) hY.size) hw0 hgp0 hrm r (ownsRow_turned hown (Turned.of_below hY (fun _ => False)) (fun _ _ h => h.elim)) hn hmem hPC hn1 hn16 hpl
  have HH : Hid (∀ k, H i k = anyP M H r r.mem k) := hH
  clear b1 N1 hPA hA hw0 hgp0 hown hmem hPC hpl hH
  go_enter Tryz.func70, Tryz.ntmps70
  go_upto_region 1 with (fail)
  refine (?_ : Code.wp _ _ _ _ (w.alloc (.cells #[.int .i64 r.kind, .int .i64 r.elem, .int .i64 r.len, .string r.tag, .slice sp r.mem.length sc, .bool r.done] TR)))
  generalize w.alloc (.cells #[.int .i64 r.kind, .int .i64 r.elem, .int .i64 r.len, .string r.tag, .slice sp r.mem.length sc, .bool r.done] TR) = W1 at *
  have k0 := Lib.cell_of_heap HN1.out 0
  have k1 := Lib.cell_of_heap HN1.out 1
  have k2 := Lib.cell_of_heap HN1.out 2
  have k3 := Lib.cell_of_heap HN1.out 3
  have k4 := Lib.cell_of_heap HN1.out 4
  have k5 := Lib.cell_of_heap HN1.out 5
  simp only [List.getElem?_toArray, List.getElem?_cons_zero, List.getElem?_cons_succ] at k0 k1 k2 k3 k4 k5
  have cR := isRec_c r sp r.mem.length sc W1
  rw [hk] at cR
  go_wp2_with fail
  refine cR.mono ?_
  rintro e w2 ⟨rfl, hb2⟩
  have HB2 : Hid (Below W1.heap.size W1 w2) := hb2
  have N2 := blk_b HN1.out hb2
  clear cR hb2 k0 k1 k2 k3 k4 k5
  have k0 := Lib.cell_of_heap N2 0
  have k1 := Lib.cell_of_heap N2 1
  have k2 := Lib.cell_of_heap N2 2
  have k3 := Lib.cell_of_heap N2 3
  have k4 := Lib.cell_of_heap N2 4
  have k5 := Lib.cell_of_heap N2 5
  simp only [List.getElem?_toArray, List.getElem?_cons_zero, List.getElem?_cons_succ] at k0 k1 k2 k3 k4 k5
  have HB12 : Hid (Below w.heap.size w w2) := HB1.out.trans (HB2.out.mono HB1.out.size)
  clear N2
  go_wp2_with fail
  refine (HC.out w2 HB12.out).mono ?_
  rintro e w4 ⟨g, cap, L, rfl, hcap, hg, hL, hB4, hbt, hPA4, ht4⟩
  have HX : Hid (L.length = n ∧ ByB w4 g n L ∧ (∀ k, bitB L k = anyP M H r r.mem k) ∧ PA w0 b rb m pb gp rs M H A w4 ∧ Turned w2 w4 (fun k => k = m ∨ k = gp)) := ⟨hL, hB4, hbt, hPA4, ht4⟩
  clear hL hB4 hbt hPA4 ht4 HC k0 k1 k2 k3 k4 k5
  go_wp2
  go_ret
  obtain ⟨hL, hB4, hbt, hPA4, ht4⟩ := HX.out
  have hsz := HB12.out.size
  refine ⟨g, cap, L, by rw [hL]; rfl, by omega, by omega, by rw [hL]; exact hB4, ⟨by rw [hL, hM], fun k _ => by rw [hbt, HH.out]⟩, hPA4, (Turned.of_below HB12.out _).trans ht4 (fun _ _ e => e)⟩
/-- Nothing but the painter's blocks has turned. -/
def SM (W0 : World) (m gp : Nat) (Y : World) : Prop := Turned W0 Y (fun k => k = m ∨ k = gp)
theorem SM.drew {W0 Y : World} {m gp : Nat} (h : SM W0 m gp Y) : SM W0 m gp Y.drew := ⟨h.os, h.tape, h.output, h.size, h.block⟩
theorem SM.turned {W0 Y Z : World} {m gp : Nat} (h : SM W0 m gp Y) (ht : Turned Y Z (fun k => k = m ∨ k = gp)) : SM W0 m gp Z := Turned.trans h ht (fun _ _ e => e)
theorem SM.below {W0 Y Z : World} {m gp : Nat} (h : SM W0 m gp Y) (ht : Below Y.heap.size Y Z) : SM W0 m gp Z := Turned.trans h (Turned.of_below ht (fun k => k = m ∨ k = gp)) (fun _ _ e => e)
theorem SM.meas {W0 Y Z : World} {m gp : Nat} (h : SM W0 m gp Y) (ht : Turned Y Z (fun k => k = m)) : SM W0 m gp Z := Turned.trans h ht (fun _ _ e => .inl e)
theorem SM.cell {W0 Y : World} {m gp g j : Nat} {v : Value} {o : Obj} (h : SM W0 m gp Y) (hg : W0.heap[g]? = some o) (hne : ¬ (g = m ∨ g = gp)) (hc : W0.cell? ⟨g, j, none⟩ = some v) : Y.cell? ⟨g, j, none⟩ = some v :=
  (World.cell?_of_block (w := W0) (a := ⟨g, j, none⟩) (h.block g (lt_of_heap hg) hne)).trans hc
set_option maxHeartbeats 8000000 in
theorem painted_arr (hPA : PA w0 b rb m pb gp rs M H A w) (hA : ∀ k, A k → k < w.heap.size) (r : Rw) {sp : Option Addr} {sc : Nat} {i c : Nat} (h14 : (r.kind == 14) = true) (hc1 : 1 ≤ c) (hlen : r.len = c) (hE : 1 ≤ (M r.elem).size) (hn16 : c * (M r.elem).size ≤ 16384) (hPC : PC w0 b rb m pb gp rs M H r.elem) (v : Int)
    (hM : (M i).size = c * (M r.elem).size) (hH : ∀ k, H i k = H r.elem (k % (8 * (M r.elem).size).toNat)) :
    Calls Tryz.prog 70 #[.pointer (some ⟨pb, 0, none⟩), .agg #[.int .i64 r.kind, .int .i64 r.elem, .int .i64 r.len, .string r.tag, .slice sp r.mem.length sc, .bool r.done], .int .i64 v] w (PD w0 b rb m pb gp rs M H A i w) := by
  have b1 := below1 w (.cells #[.int .i64 r.kind, .int .i64 r.elem, .int .i64 r.len, .string r.tag, .slice sp r.mem.length sc, .bool r.done] TR)
  have N1 := heap_r0 w (.cells #[.int .i64 r.kind, .int .i64 r.elem, .int .i64 r.len, .string r.tag, .slice sp r.mem.length sc, .bool r.done] TR)
  have HB1 : Hid (Below _ _ _) := b1
  have HN1 : Hid (_ = _) := N1
  have HC : Hid (∀ Y, Below w.heap.size w Y → Calls Tryz.prog 40 #[.pointer (some ⟨pb, 0, none⟩), .int .i64 r.elem] Y fun e w' => ∃ (g cap : Nat) (L : List UInt8), e = .returned (.slice (some ⟨g, 0, none⟩) L.length cap) ∧ L.length ≤ cap ∧ ByB w' g L.length L ∧ ¬ A g ∧ PicOf M H r.elem L ∧ PA w0 b rb m pb gp rs M H A w' ∧ Turned Y w' (fun k => k = m ∨ k = gp)) := fun Y hY =>
    hPC A Y (hPA.below hY) (fun k hk => Nat.lt_of_lt_of_le (hA k hk) hY.size)
  have HH : Hid (∀ k, H i k = H r.elem (k % (8 * (M r.elem).size).toNat)) := hH
  have NW : ¬ (w.heap.size = m ∨ w.heap.size = gp) := by
    have e1 := hPA.ru.lt
    obtain ⟨cur, hgp, _⟩ := hPA.pics
    have e2 := lt_of_heap hgp
    omega
  clear b1 N1 hPA hA hPC hH
  rw [hlen] at *
  go_enter Tryz.func70, Tryz.ntmps70
  go_upto_region 1 with (fail)
  refine (?_ : Code.wp _ _ _ _ (w.alloc (.cells #[.int .i64 r.kind, .int .i64 r.elem, .int .i64 (c : Int), .string r.tag, .slice sp r.mem.length sc, .bool r.done] TR)))
  generalize w.alloc (.cells #[.int .i64 r.kind, .int .i64 r.elem, .int .i64 (c : Int), .string r.tag, .slice sp r.mem.length sc, .bool r.done] TR) = W1 at *
  have k0 := Lib.cell_of_heap HN1.out 0
  simp only [List.getElem?_toArray, List.getElem?_cons_zero] at k0
  have F1 : ∀ Y, SM W1 m gp Y → Y.cell? ⟨w.heap.size, 1, none⟩ = some (.int .i64 r.elem) := fun Y h => h.cell HN1.out NW (Lib.cell_of_heap HN1.out 1)
  have F2 : ∀ Y, SM W1 m gp Y → Y.cell? ⟨w.heap.size, 2, none⟩ = some (.int .i64 (c : Int)) := fun Y h => h.cell HN1.out NW (Lib.cell_of_heap HN1.out 2)
  have HSM : SM W1 m gp W1 := Turned.refl _ _
  have HRP : Hid (∀ (Y : World) (g cap : Nat) (L : List UInt8), ByB Y g L.length L → PicOf M H r.elem L → Calls Tryz.prog 91 #[.slice (some ⟨g, 0, none⟩) L.length cap, .int .i64 (c : Int)] Y fun e w' => e = .returned (.slice (some ⟨Y.heap.size, 0, none⟩) (L.length * c) (L.length * c)) ∧ ByB w' Y.heap.size (L.length * c) (Lib.repeatL L c) ∧ Below Y.heap.size Y w') := fun Y g cap L hB hP => by
    have h1 := hP.1
    have h2 : (L.length : Int) * (c : Int) ≤ 16384 := by rw [h1, Int.mul_comm]; exact hn16
    have h3 : L.length * c ≤ 16384 := by have : ((L.length * c : Nat) : Int) ≤ 16384 := by rw [Int.natCast_mul]; exact h2
                                         omega
    refine repeat_c L c ⟨g, 0, none⟩ cap Y (fun j x hx => ?_) (by omega) hc1 (by omega)
    rw [show (⟨g, 0, none⟩ : Addr).add j = ⟨g, j, none⟩ by unfold Addr.add; split <;> simp_all]
    exact hB.cell hx
  go_wp2
  go_region_held3 (fun Y => SM W1 m gp Y) (first | assumption | (with_reducible refine SM.drew ?_; assumption) | (with_reducible refine SM.turned ?_ (by assumption); assumption) | (with_reducible refine SM.below ?_ (by assumption); assumption)) (first
    | (go_at_call 40; refine (HC.out _ ?_).mono ?_; exact HB1.out.drew; rintro e y1 ⟨g2, cap2, L2, rfl, hcap2, hB2, hA2, hP2, hPA2, ht2⟩; have HX2 : Hid (ByB y1 g2 L2.length L2 ∧ PicOf M H r.elem L2 ∧ PA w0 b rb m pb gp rs M H A y1) := ⟨hB2, hP2, hPA2⟩; clear hB2 hA2 hP2 hPA2)
    | (go_at_call 91; refine (HRP.out _ _ _ _ HX2.out.1 HX2.out.2.1).mono ?_; rintro e y2 ⟨rfl, hB3, hb3⟩; have HX3 : Hid (ByB y2 y1.heap.size (L2.length * c) (Lib.repeatL L2 c)) := hB3; have HX4 : Hid (Below y1.heap.size y1 y2) := hb3; clear hB3))
  rename_i hHeld
  have HHH : Hid (SM W1 m gp y2) := hHeld
  clear hHeld HSM F1 F2 k0
  go_wp2
  go_ret
  obtain ⟨q1, q2, q3⟩ := HX2.out
  have q4 := q2.1
  have hl : (Lib.repeatL L2 c).length = L2.length * c := by rw [Lib.repeatL_length, Nat.mul_comm]
  have htt : Turned w y2 (fun k => k = m ∨ k = gp) := (Turned.of_below HB1.out _).trans HHH.out (fun _ _ e => e)
  have hs1 : w.heap.size ≤ y1.heap.size := by have := HB1.out.size; have := ht2.size; simp at this; omega
  refine ⟨y1.heap.size, L2.length * c, Lib.repeatL L2 c, by rw [hl]; rfl, by omega, hs1, by rw [hl]; exact HX3.out, ⟨?_, fun k hk => ?_⟩, q3.below HX4.out, htt⟩
  · rw [hl, hM, Int.natCast_mul, q4, Int.mul_comm]
  · rw [hl, Nat.mul_comm L2.length c] at hk
    rw [rep_bits L2 (by omega) c k hk, HH.out, q2.2 _ (Nat.mod_lt _ (by omega))]
    congr 2
    omega
end
end Go.Proofs.YtlcghlfmaohfeaaGreat
namespace Go.Proofs.YtlcghlfmaohfeaaGreat
open Go.RowKit Go.Maps
set_option linter.unusedVariables false
set_option maxRecDepth 100000
abbrev TGs : TypeId := 52
abbrev TG : TypeId := 75
/-- A gap: its first bit, how many. -/
structure Gp where
  from_ : Nat
  bits : Nat
deriving DecidableEq
/-- What is known when so many bits were looked at: the gaps, and how many bits the last one has so far (0: it has ended). -/
structure Gs where
  l : List Gp
  free : Nat
def setLast (l : List Gp) (n : Nat) : List Gp := l.modify (l.length - 1) fun g => ⟨g.from_, n⟩
def gapStep (f : Nat → Bool) (s : Gs) (i : Nat) : Gs :=
  if f i then ⟨s.l, 0⟩ else ⟨setLast (if s.free = 0 then s.l ++ [⟨i, 0⟩] else s.l) (s.free + 1), s.free + 1⟩
def gapF (f : Nat → Bool) : Nat → Gs
  | 0 => ⟨[], 0⟩
  | n + 1 => gapStep f (gapF f n) n
theorem gapF_congr {f g : Nat → Bool} : ∀ n, (∀ k, k < n → f k = g k) → gapF f n = gapF g n
  | 0, _ => rfl
  | n + 1, h => by
    simp only [gapF, gapStep]
    rw [gapF_congr n (fun k hk => h k (by omega)), h n (by omega)]
theorem setLast_length (l : List Gp) (n : Nat) : (setLast l n).length = l.length := by simp [setLast]
theorem gapF_len (f : Nat → Bool) : ∀ n, (gapF f n).l.length ≤ n ∧ (gapF f n).free ≤ n ∧ ((gapF f n).free ≠ 0 → 0 < (gapF f n).l.length)
  | 0 => by simp [gapF]
  | n + 1 => by
    obtain ⟨h1, h2, h3⟩ := gapF_len f n
    simp only [gapF, gapStep]
    split
    · exact ⟨by simp only; omega, by simp only; omega, fun h => absurd rfl h⟩
    · simp only [setLast_length]
      split
      · simp; omega
      · exact ⟨by omega, by omega, fun _ => h3 (by assumption)⟩
def gpCells (l : List Gp) : List Value := l.flatMap fun g => [Value.int .i64 (g.from_ : Int), .int .i64 (g.bits : Int)]
theorem infoTG : (Tryz.prog.info? TG).map (fun i => (i.zero, i.size, i.bytes)) = some (some (.agg #[.int .i64 0, .int .i64 0]), 2, 16) := by kernel_rfl
theorem and_one (x : UInt8) (e : Nat) (he : e < 8) : bits .and .u8 ((x.toNat : Int) / 2 ^ e) 1 = if x.toNat.testBit e then 1 else 0 := by
  have h2 : ((x.toNat : Int) / 2 ^ e) = ((x.toNat / 2 ^ e : Nat) : Int) := by simp
  have hx := x.toNat_lt
  have hlt : x.toNat / 2 ^ e < 256 := Nat.lt_of_le_of_lt (Nat.div_le_self _ _) hx
  rw [h2, show (1 : Int) = ((1 : Nat) : Int) from rfl, u8_and_nat _ _ hlt (by decide), Nat.and_one_is_mod, Nat.testBit_eq_decide_div_mod_eq]
  by_cases h : x.toNat / 2 ^ e % 2 = 1
  · simp [h]
  · have : x.toNat / 2 ^ e % 2 = 0 := by omega
    simp [this]
theorem own_set {w : World} {base : Nat} {e : TypeId} {size n : Nat} {xs : List Value} {g cap : Nat} (h : w.ownsRow base e size (.slice (some ⟨g, 0, none⟩) n cap) n xs) (j : Nat) (hj : j < n * size) (x : Value) :
    (w.setCell ⟨g, j, none⟩ x).ownsRow base e size (.slice (some ⟨g, 0, none⟩) n cap) n (xs.set j x) := by
  obtain ⟨h1, ⟨h2, _⟩ | ⟨g', cap', cur, he, hb, hg, h3, h4, h5, h6⟩⟩ := h
  · cases h2
  · cases he
    refine ⟨by rw [List.length_set]; exact h1, Or.inr ⟨g, cap, _, rfl, hb, heap_setCell hg x, h3, h4, by simpa using h5, ?_⟩⟩
    rw [Array.toList_setIfInBounds, List.take_set, h6]
theorem own_cell {w : World} {base : Nat} {e : TypeId} {size n : Nat} {xs : List Value} {v : Value} (h : w.ownsRow base e size v n xs) (hn : 0 < n) : ∃ g cap, v = .slice (some ⟨g, 0, none⟩) n cap ∧ base ≤ g ∧ g < w.heap.size ∧ n ≤ cap ∧ (∀ j u, xs[j]? = some u → w.cell? ⟨g, j, none⟩ = some u) ∧ ∀ j, w.frozen? ⟨g, j, none⟩ = false := by
  obtain ⟨h1, ⟨_, h2⟩ | ⟨g', cap', cur, rfl, hb, hg, h3, h4, h5, h6⟩⟩ := h
  · omega
  · refine ⟨g', cap', rfl, hb, lt_of_heap hg, h3, fun j u hu => ?_, fun j => frozen_of hg j⟩
    rw [Lib.cell_of_heap hg, ← Array.getElem?_toList]
    have hj : j < xs.length := (List.getElem?_eq_some_iff.1 hu).1
    rw [← h6, List.getElem?_take] at hu
    split at hu
    · exact hu
    · rename_i hx; rw [h1] at hj; exact absurd hj hx
theorem gp_len (l : List Gp) : (gpCells l).length = l.length * 2 := by
  induction l with
  | nil => rfl
  | cons a l ih => simp only [gpCells, List.flatMap_cons, List.length_append, List.length_cons, List.length_nil] at *; omega
theorem gp_last (l : List Gp) (h : 0 < l.length) (n : Nat) : gpCells (setLast l n) = (gpCells l).set ((l.length - 1) * 2 + 1) (.int .i64 (n : Int)) ∧ ∃ u, (gpCells l)[(l.length - 1) * 2 + 1]? = some (.int .i64 u) := by
  obtain ⟨r, x, rfl⟩ : ∃ r x, l = r ++ [x] := ⟨l.dropLast, l.getLast (by intro e; rw [e] at h; simp at h), (List.dropLast_concat_getLast _).symm⟩
  have e1 : setLast (r ++ [x]) n = r ++ [⟨x.from_, n⟩] := by
    apply List.ext_getElem?
    intro i
    simp only [setLast, List.getElem?_modify, List.length_append, List.length_cons, List.length_nil, Nat.zero_add, Nat.add_sub_cancel]
    by_cases hi : i < r.length
    · rw [List.getElem?_append_left hi, List.getElem?_append_left hi]
      simp [show ¬ r.length = i by omega]
    · rw [List.getElem?_append_right (by omega), List.getElem?_append_right (by omega)]
      by_cases h2 : i = r.length
      · subst h2; simp
      · have : i - r.length ≠ 0 := by omega
        obtain ⟨d, hd⟩ : ∃ d, i - r.length = d + 1 := ⟨i - r.length - 1, by omega⟩
        rw [hd]; simp
  have e2 : ∀ y : Gp, gpCells (r ++ [y]) = gpCells r ++ [.int .i64 (y.from_ : Int), .int .i64 (y.bits : Int)] := fun y => by simp [gpCells]
  have e3 : (r ++ [x]).length - 1 = r.length := by simp
  rw [e1, e2, e2, e3]
  have hl := gp_len r
  refine ⟨?_, ⟨(x.bits : Int), ?_⟩⟩
  · rw [List.set_append_right _ _ (by omega), hl, show r.length * 2 + 1 - r.length * 2 = 1 by omega]
    rfl
  · rw [List.getElem?_append_right (by omega), hl, show r.length * 2 + 1 - r.length * 2 = 1 by omega]
    rfl
set_option maxHeartbeats 8000000 in
theorem gaps_c (l : List UInt8) (g cap N : Nat) (w : World) (hB : ByB w g N l) (hn : l.length ≤ 16385) :
    Calls Tryz.prog 39 #[.slice (some ⟨g, 0, none⟩) l.length cap] w fun e w' => ∃ s, e = .returned s ∧ Below w.heap.size w w' ∧ w'.ownsRow w.heap.size TG 2 s (gapF (bitB l) (8 * l.length)).l.length (gpCells (gapF (bitB l) (8 * l.length)).l) := by
  obtain ⟨i0, hi, hz0, hz1, hz2⟩ := info_parts infoTG
  have HB : Hid (ByB w g N l) := hB
  have hlt := hB.lt
  clear hB
  go_enter Tryz.func39, Tryz.ntmps39
  go_wp2
  go_loopw [3, 4, 9] (fun sv fv iv wr => ∃ (j : Nat), j ≤ 8 * l.length ∧ iv = .int .i64 j ∧ fv = .int .i64 (gapF (bitB l) j).free ∧ Hid (Below w.heap.size w wr) ∧ Hid (wr.ownsRow w.heap.size TG 2 sv (gapF (bitB l) j).l.length (gpCells (gapF (bitB l) j).l))) (fun _ _ iv _ => 8 * l.length - (intOf iv).toNat)
  case atStart => exact ⟨0, Nat.zero_le _, rfl, rfl, Below.refl _ _, ⟨by simp [gapF, gpCells], Or.inl ⟨rfl, rfl⟩⟩⟩
  case round =>
    obtain ⟨j, hj, rfl, rfl, HT, HO⟩ := hrel
    obtain ⟨gl1, gl2, gl3⟩ := gapF_len (bitB l) j
    obtain ⟨sp, sc, rfl⟩ := slice_of_own HO.out
    by_cases hjl : j < 8 * l.length
    · have hq : j / 8 < l.length := by omega
      obtain ⟨x, hx⟩ : ∃ x, l[j / 8]? = some x := ⟨_, List.getElem?_eq_getElem hq⟩
      have c0 := (HB.out.turned (Turned.of_below HT.out (fun _ => False)) (fun h => h)).cell hx
      have HX : Hid (l[j / 8]? = some x) := hx
      have hbit : bitB l j = x.toNat.testBit (j % 8) := by unfold bitB; rw [hx]; rfl
      have HBIT : Hid (bitB l j = x.toNat.testBit (j % 8)) := hbit
      clear hx hbit
      have hand := and_one x (j % 8) (Nat.mod_lt _ (by decide))
      rw [← HBIT.out] at hand
      have HNX : Hid (gapF (bitB l) (j + 1) = gapStep (bitB l) (gapF (bitB l) j) j) := rfl
      generalize gapF (bitB l) j = G at *
      obtain ⟨gs, fr⟩ := G
      simp only at gl1 gl2 gl3 HO ⊢
      cases hb : bitB l j with
      | true =>
        rw [hb] at hand
        have ht : (bits .and .u8 ((x.toNat : Int) / 2 ^ (j % 8)) 1 == 1) = true := by rw [hand]; rfl
        clear hand
        have hst : gapF (bitB l) (j + 1) = ⟨gs, 0⟩ := by rw [HNX.out]; simp [gapStep, hb]
        have HST : Hid (gapF (bitB l) (j + 1) = ⟨gs, 0⟩) := hst
        clear hst HNX hb
        go_wp2
        refine ⟨⟨j + 1, by omega, by go_num, by rw [HST.out]; rfl, HT, ?_⟩, by simp [intOf]; omega⟩
        rw [HST.out]
        exact HO
      | false =>
        rw [hb] at hand
        have ht : (bits .and .u8 ((x.toNat : Int) / 2 ^ (j % 8)) 1 == 1) = false := by rw [hand]; rfl
        clear hand
        by_cases hfr : fr = 0
        · subst hfr
          have hst : gapF (bitB l) (j + 1) = ⟨setLast (gs ++ [⟨j, 0⟩]) 1, 1⟩ := by rw [HNX.out]; simp [gapStep, hb]
          have HST : Hid (gapF (bitB l) (j + 1) = ⟨setLast (gs ++ [⟨j, 0⟩]) 1, 1⟩) := hst
          clear hst HNX hb gl3
          have hb1 := below1 wr (.cells #[.int .i64 j, .int .i64 0] TG)
          have HO1 : Hid ((wr.alloc (.cells #[.int .i64 j, .int .i64 0] TG)).ownsRow w.heap.size TG 2 (.slice sp gs.length sc) gs.length (gpCells gs)) := ownsRow_turned HO.out (Turned.of_below hb1 (fun _ => False)) (fun _ _ h => h.elim)
          have HT1 : Hid (Below w.heap.size w (wr.alloc (.cells #[.int .i64 j, .int .i64 0] TG))) := HT.out.trans (hb1.mono HT.out.size)
          clear hb1 HO
          go_wp2_with (at_builtin; go_must (refine wpList_append_own_at _ rfl (.tmp 24) (.tmp 27) TGs rfl w.heap.size TG i0 _ 2 16 Tryz.underlying52 hi hz0 hz1 hz2 rfl (by decide) (.slice sp gs.length sc) gs.length _ rfl HO1.out ⟨wr.heap.size, 0, none⟩ 1 1 [.int .i64 j, .int .i64 0] rfl rfl (cells_new _ _ _) (by simp [Value.oneCell']) (by unfold maxLen; omega) (by omega) HT1.out.size ?_); intro v' w' hown hgrow hnil hat; obtain ⟨g', cap', rfl, q1, q2, q3, q4, q5⟩ := own_cell hown (by omega); have HOW : Hid (w'.ownsRow w.heap.size TG 2 (.slice (some ⟨g', 0, none⟩) (gs.length + 1) cap') (gs.length + 1) (gpCells gs ++ [.int .i64 j, .int .i64 0])) := hown; have HGR : Hid (Below w.heap.size w w') := HT1.out.grown hgrow HT1.out.size (fun k e => (ownsRow_at HO1.out e).1); have cl := q4 (gs.length * 2 + 1) (.int .i64 0) (by rw [List.getElem?_append_right (by rw [gp_len]; omega), gp_len, show gs.length * 2 + 1 - gs.length * 2 = 1 by omega]; rfl); have fz := q5 (gs.length * 2 + 1); clear hown hgrow hnil hat q4 q5)
          refine ⟨⟨j + 1, by omega, by go_num, by rw [HST.out]; rfl, below_turned HGR.out (Turned.setCell (S := fun k => k = g') _ _ _ _ rfl) q1, ?_⟩, by simp [intOf]; omega⟩
          have e0 : gpCells (gs ++ [⟨j, 0⟩]) = gpCells gs ++ [.int .i64 j, .int .i64 0] := by simp [gpCells]
          have e1 := (gp_last (gs ++ [⟨j, 0⟩]) (by simp) 1).1
          rw [e0, show (gs ++ [(⟨j, 0⟩ : Gp)]).length - 1 = gs.length by simp] at e1
          rw [HST.out]
          simp only [setLast_length, List.length_append, List.length_cons, List.length_nil, Nat.zero_add]
          rw [e1]
          exact own_set HOW.out _ (by omega) _
        · have hst : gapF (bitB l) (j + 1) = ⟨setLast gs (fr + 1), fr + 1⟩ := by rw [HNX.out]; simp [gapStep, hb, hfr]
          have HST : Hid (gapF (bitB l) (j + 1) = ⟨setLast gs (fr + 1), fr + 1⟩) := hst
          have hgs := gl3 hfr
          obtain ⟨g', cap', he, q1, q2, q3, q4, q5⟩ := own_cell HO.out hgs
          cases he
          obtain ⟨e1, u, hu⟩ := gp_last gs hgs (fr + 1)
          have cl := q4 _ _ hu
          have fz := q5 ((gs.length - 1) * 2 + 1)
          have HE1 : Hid (_ = _) := e1
          have hfr2 : ((fr : Int) == 0) = false := by simpa using hfr
          clear hst HNX hb gl3 q4 q5 hu e1 hfr
          go_wp2
          refine ⟨⟨j + 1, by omega, by go_num, by rw [HST.out]; go_num, below_turned HT.out (Turned.setCell (S := fun k => k = g') _ _ _ _ rfl) q1, ?_⟩, by simp [intOf]; omega⟩
          rw [HST.out]
          simp only [setLast_length]
          rw [HE1.out]
          exact own_set HO.out _ (by omega) _
    · obtain rfl : j = 8 * l.length := by omega
      go_wp2
      go_ret
      exact ⟨_, rfl, HT.out, HO.out⟩
end Go.Proofs.YtlcghlfmaohfeaaGreat
namespace Go.Proofs.YtlcghlfmaohfeaaGreat
open Go.RowKit Go.Maps
set_option linter.unusedVariables false
set_option maxRecDepth 100000
section
variable {B : Nat} {w0 w : World} {b rb m pb gp mb : Nat} {v : Value} {rs : List (Rw × Value)} {ps : List (Value × Value)} {M : Int → Ex} {H : Int → Nat → Bool} {A : Nat → Prop}
theorem not2 {g a b : Nat} (h : g ≠ a) (h2 : g ≠ b) : ¬ (g = a ∨ g = b) := by omega
set_option maxHeartbeats 8000000 in
theorem paint_old (hPA : PA w0 b rb m pb gp rs M H A w) {i g cap : Nat} {L : List UInt8} (hi : i < rs.length) (hr : rs.length ≤ 512) (hc : w.cell? ⟨gp, i, none⟩ = some (.slice (some ⟨g, 0, none⟩) L.length cap)) (hL : 0 < L.length) :
    Calls Tryz.prog 40 #[.pointer (some ⟨pb, 0, none⟩), .int .i64 (i : Int)] w fun e w' => e = .returned (.slice (some ⟨g, 0, none⟩) L.length cap) ∧ w' = w := by
  have p1 := Lib.cell_of_heap hPA.pt 1
  simp only [List.getElem?_toArray, List.getElem?_cons_zero, List.getElem?_cons_succ] at p1
  clear hPA
  go_enter Tryz.func40, Tryz.ntmps40
  go_wp2
  go_ret
  exact ⟨rfl, rfl⟩
set_option maxHeartbeats 8000000 in
theorem paint_new (h0 : Tab B w0 b mb v rs ps) (hs : Small rs) (hPA : PA w0 b rb m pb gp rs M H A w) (hA : ∀ k, A k → k < w.heap.size) (hrm : rb ≠ m) (hgp0 : w0.heap.size ≤ gp) {i : Nat} {p : Rw × Value} (hp : rs[i]? = some p) (hr : rs.length ≤ 512) (hc : w.cell? ⟨gp, i, none⟩ = some (.slice none 0 0))
    (hMC : MC w0 b rb m rs M i) (hsz : 1 ≤ (M i).size)
    (hPD : ∀ (Y : World) (sp : Option Addr) (sc bs : Nat), PA w0 b rb m pb gp rs M H A Y → w.heap.size ≤ Y.heap.size → Y.ownsRow bs TM 3 (.slice sp p.1.mem.length sc) p.1.mem.length (memCells p.1.mem) → Calls Tryz.prog 70 #[.pointer (some ⟨pb, 0, none⟩), .agg #[.int .i64 p.1.kind, .int .i64 p.1.elem, .int .i64 p.1.len, .string p.1.tag, .slice sp p.1.mem.length sc, .bool p.1.done], .int .i64 (M i).size] Y (PD w0 b rb m pb gp rs M H A i Y)) :
    Calls Tryz.prog 40 #[.pointer (some ⟨pb, 0, none⟩), .int .i64 (i : Int)] w fun e w' => ∃ (g cap : Nat) (L : List UInt8), e = .returned (.slice (some ⟨g, 0, none⟩) L.length cap) ∧ L.length ≤ cap ∧ ByB w' g L.length L ∧ ¬ A g ∧ PicOf M H i L ∧ PA w0 b rb m pb gp rs M H A w' ∧ Turned w w' (fun k => k = m ∨ k = gp) := by
  have hlt : i < rs.length := (List.getElem?_eq_some_iff.1 hp).1
  have p0 := Lib.cell_of_heap hPA.pt 0
  have p1 := Lib.cell_of_heap hPA.pt 1
  have q0 := Lib.cell_of_heap hPA.ru.ru 0
  simp only [List.getElem?_toArray, List.getElem?_cons_zero, List.getElem?_cons_succ] at p1 p0 q0
  have HRC : Hid (∀ W, Below w0.heap.size w0 W → Calls Tryz.prog 55 #[.pointer (some ⟨b, 0, none⟩), .int .i64 i] W fun e w' => ∃ s', e = .returned (.tuple #[.agg (rwCells p.1 s').toArray, .bool true]) ∧ w'.ownsRow W.heap.size TM 3 s' p.1.mem.length (memCells p.1.mem) ∧ Below W.heap.size W w') := fun W hW => row_c (h0.keptB hW) hp hs
  have HPA : Hid (PA w0 b rb m pb gp rs M H A w) := hPA
  have HA : Hid (∀ k, A k → k < w.heap.size) := hA
  have HMC : Hid (∀ W, RU w0 b rb m rs M W → Calls Tryz.prog 57 #[.pointer (some ⟨rb, 0, none⟩), .int .i64 (i : Int)] W fun e w' => e = .returned (.agg #[.int .i64 (M i).size, .int .i64 (M i).align]) ∧ RU w0 b rb m rs M w' ∧ Turned W w' (fun k => k = m)) := fun W hW => hMC W hW
  obtain ⟨⟨kd, el, ln, tg, mm, dn⟩, s0⟩ := p
  simp only [rwCells] at HRC hPD
  have HPD : Hid (∀ (Y : World) (sp : Option Addr) (sc bs : Nat), PA w0 b rb m pb gp rs M H A Y → w.heap.size ≤ Y.heap.size → Y.ownsRow bs TM 3 (.slice sp mm.length sc) mm.length (memCells mm) → Calls Tryz.prog 70 #[.pointer (some ⟨pb, 0, none⟩), .agg #[.int .i64 kd, .int .i64 el, .int .i64 ln, .string tg, .slice sp mm.length sc, .bool dn], .int .i64 (M i).size] Y (PD w0 b rb m pb gp rs M H A i Y)) := hPD
  clear h0 hs hPA hA hMC hPD hp
  go_enter Tryz.func40, Tryz.ntmps40
  go_wp2_with fail
  refine (HRC.out w HPA.out.ru.below).mono ?_
  rintro e w2 ⟨s', rfl, hown, hb2⟩
  obtain ⟨sp, sc, rfl⟩ := slice_of_own hown
  have hold2 := heap_r0 w2 (.cells #[.int .i64 0, .int .i64 0, .int .i64 0, .string ⟨#[]⟩, .slice none 0 0, .bool false] TR)
  have b3 := below1 w2 (.cells #[.int .i64 kd, .int .i64 el, .int .i64 ln, .string tg, .slice sp mm.length sc, .bool dn] TR)
  have N3 := heap_r0 w2 (.cells #[.int .i64 kd, .int .i64 el, .int .i64 ln, .string tg, .slice sp mm.length sc, .bool dn] TR)
  have HB3 : Hid (Below w.heap.size w (w2.alloc (.cells #[.int .i64 kd, .int .i64 el, .int .i64 ln, .string tg, .slice sp mm.length sc, .bool dn] TR))) := hb2.trans (b3.mono hb2.size)
  have O3 : Hid (World.ownsRow (w2.alloc (.cells #[.int .i64 kd, .int .i64 el, .int .i64 ln, .string tg, .slice sp mm.length sc, .bool dn] TR)) _ TM 3 (.slice sp mm.length sc) mm.length (memCells mm)) := ownsRow_turned hown (Turned.of_below b3 (fun _ => False)) (fun _ _ h => h.elim)
  have HN3 : Hid (_ = _) := N3
  have hz2 := hb2.size
  clear HRC hown hb2 b3 N3 p0 p1 q0 hc
  go_wp2_with (first | ((with_reducible apply step_store hold2); rfl; rfl; kernel_rfl; rfl; kernel_rfl; rw [World.setRow_alloc_new]) | fail)
  refine (?_ : Code.wp _ _ _ _ (w2.alloc (.cells #[.int .i64 kd, .int .i64 el, .int .i64 ln, .string tg, .slice sp mm.length sc, .bool dn] TR)))
  generalize w2.alloc (.cells #[.int .i64 kd, .int .i64 el, .int .i64 ln, .string tg, .slice sp mm.length sc, .bool dn] TR) = W3 at *
  have hPA3 := HPA.out.below HB3.out
  obtain ⟨cur3, hgp3, _⟩ := hPA3.pics
  have NM : ∀ {g : Nat} {c : Array Value} {t : TypeId}, W3.heap[g]? = some (.cells c t (0, 0)) → g ≠ m := fun h => hPA3.ru.ne_m h
  have N1 : ¬ (w2.heap.size = m ∨ w2.heap.size = gp) := not2 (NM HN3.out) (tag_ne HN3.out hgp3 (by decide))
  have N2 : ¬ (pb = m ∨ pb = gp) := not2 (NM hPA3.pt) (tag_ne hPA3.pt hgp3 (by decide))
  have ngm : gp ≠ m := NM hgp3
  have hrg : rb ≠ gp := tag_ne hPA3.ru.ru hgp3 (by decide)
  have HPT : Hid (_ = _) := hPA3.pt
  have HPB : Hid (∀ y1, RU w0 b rb m rs M y1 → Turned W3 y1 (fun k => k = m) → PA w0 b rb m pb gp rs M H A y1 ∧ y1.ownsRow w.heap.size TM 3 (.slice sp mm.length sc) mm.length (memCells mm)) := fun y1 hU ht => by
    refine ⟨hPA3.keep hU ht (NM hPA3.pt) ngm (fun g cs hg _ => NM hg) (fun _ _ e => e), ownsRow_turned O3.out ht (fun k hk => ?_)⟩
    obtain ⟨_, cur, hc⟩ := ownsRow_at O3.out hk
    exact NM hc
  have HU3 : Hid (RU w0 b rb m rs M W3.drew) := hPA3.ru.kept (Below.refl _ _).drew
  have HZ3 : Hid (w.heap.size ≤ W3.heap.size) := HB3.out.size
  have F0 : ∀ Y, SM W3 m gp Y → Y.cell? ⟨w2.heap.size, 0, none⟩ = some (.int .i64 kd) := fun Y h => h.cell HN3.out N1 (Lib.cell_of_heap HN3.out 0)
  have F1 : ∀ Y, SM W3 m gp Y → Y.cell? ⟨w2.heap.size, 1, none⟩ = some (.int .i64 el) := fun Y h => h.cell HN3.out N1 (Lib.cell_of_heap HN3.out 1)
  have F2 : ∀ Y, SM W3 m gp Y → Y.cell? ⟨w2.heap.size, 2, none⟩ = some (.int .i64 ln) := fun Y h => h.cell HN3.out N1 (Lib.cell_of_heap HN3.out 2)
  have F3 : ∀ Y, SM W3 m gp Y → Y.cell? ⟨w2.heap.size, 3, none⟩ = some (.string tg) := fun Y h => h.cell HN3.out N1 (Lib.cell_of_heap HN3.out 3)
  have F4 : ∀ Y, SM W3 m gp Y → Y.cell? ⟨w2.heap.size, 4, none⟩ = some (.slice sp mm.length sc) := fun Y h => h.cell HN3.out N1 (Lib.cell_of_heap HN3.out 4)
  have F5 : ∀ Y, SM W3 m gp Y → Y.cell? ⟨w2.heap.size, 5, none⟩ = some (.bool dn) := fun Y h => h.cell HN3.out N1 (Lib.cell_of_heap HN3.out 5)
  have P0 : ∀ Y, SM W3 m gp Y → Y.cell? ⟨pb, 0, none⟩ = some (.pointer (some ⟨rb, 0, none⟩)) := fun Y h => h.cell HPT.out N2 (Lib.cell_of_heap HPT.out 0)
  have HSM : SM W3 m gp W3 := Turned.refl _ _
  have hfd : ∀ (x y : Int) (Y : World), (Instr.field TX (.agg #[.int .i64 x, .int .i64 y]) 0).run Tryz.prog Y = .ok (.int .i64 x) Y := fun x y Y => by kernel_rfl
  clear hPA3 hgp3 NM hold2
  go_region_held3 (fun Y => SM W3 m gp Y) (first | assumption | (with_reducible refine SM.drew ?_; assumption) | (with_reducible refine SM.turned ?_ (by assumption); assumption) | (with_reducible refine SM.meas ?_ (by assumption); assumption)) (first
    | (go_at_call 57; refine (HMC.out _ HU3.out).mono ?_; rintro e y1 ⟨rfl, hU1, ht1⟩; have HQ : Hid (PA w0 b rb m pb gp rs M H A y1 ∧ y1.ownsRow w.heap.size TM 3 (.slice sp mm.length sc) mm.length (memCells mm)) := HPB.out y1 hU1 (⟨ht1.os, ht1.tape, ht1.output, ht1.size, ht1.block⟩ : Turned W3 y1 (fun k => k = m)); have HZ1 : Hid (W3.heap.size ≤ y1.heap.size) := ht1.size; clear hU1)
    | (go_at_call 70; refine (HPD.out _ _ _ _ HQ.out.1 (Nat.le_trans HZ3.out HZ1.out) HQ.out.2).mono ?_; rintro e y2 ⟨g2, cap2, L2, rfl, hcap2, hg2, hB2, hP2, hPA2, ht2⟩; have HX2 : Hid (y1.heap.size ≤ g2 ∧ ByB y2 g2 L2.length L2 ∧ PicOf M H i L2 ∧ PA w0 b rb m pb gp rs M H A y2) := ⟨hg2, hB2, hP2, hPA2⟩; clear hg2 hB2 hP2 hPA2))
  rename_i hHeld
  obtain ⟨hg2, hB2, hP2, hPA2⟩ := HX2.out
  obtain ⟨cur, hgp, hcs, hpic⟩ := hPA2.pics
  obtain ⟨u, hu⟩ : ∃ u, cur[i]? = some u := ⟨_, Array.getElem?_eq_getElem (by omega)⟩
  have c0 := (Lib.cell_of_heap hgp i).trans hu
  have f0 := frozen_of hgp i
  have p1 := Lib.cell_of_heap hPA2.pt 1
  simp only [List.getElem?_toArray, List.getElem?_cons_zero, List.getElem?_cons_succ] at p1
  have HHH : Hid (SM W3 m gp y2) := hHeld
  have HGP : Hid (_ = _) := hgp
  have HPIC : Hid (cur.size = rs.length ∧ ∀ i v, cur[i]? = some v → PicAt rs M H A y2 i v) := ⟨hcs, hpic⟩
  clear hHeld HSM F0 F1 F2 F3 F4 F5 P0 hg2 hB2 hP2 hPA2 hgp hcs hpic hu
  go_wp2
  go_ret
  obtain ⟨hg2, hB2, hP2, hPA2⟩ := HX2.out
  obtain ⟨hcs, hpic⟩ := HPIC.out
  have hns : ¬ A g2 := fun h => by have := HA.out g2 h; have := HZ3.out; have := HZ1.out; omega
  have ts : Turned y2 (y2.setCell ⟨gp, i, none⟩ (.slice (some ⟨g2, 0, none⟩) L2.length cap2)) (fun k => k = gp) := Turned.setCell (S := fun k => k = gp) _ _ _ _ rfl
  obtain ⟨cs2, hcs2⟩ := hB2.tag
  have hL0 : 0 < L2.length := by have := hP2.1; omega
  have hU := hPA2.ru.turned ts (fun k e => by omega) (fun e => hrg e) (fun e => ngm e.symm)
  refine ⟨g2, cap2, L2, rfl, hcap2, hB2.turned ts (tag_ne hcs2 HGP.out (by decide)), hns, hP2, ⟨hU, blk_t hPA2.pt ts (fun e => N2 (.inr e)), _, heap_setCell HGP.out _, by simpa using hcs, fun k u hk => ?_⟩, ?_⟩
  · rw [Array.getElem?_setIfInBounds] at hk
    split at hk
    · rename_i e
      split at hk
      · cases hk
        subst e
        exact .inr ⟨g2, cap2, L2, rfl, ⟨hL0, hcap2⟩, hB2.turned ts (tag_ne hcs2 HGP.out (by decide)), hns, hP2⟩
      · cases hk
    · exact (hpic k u hk).keep ts (fun g cs hg _ => tag_ne hg HGP.out (by decide)) (fun _ _ e => e)
  · have q := ((Turned.of_below HB3.out (fun k => k = m ∨ k = gp)).trans HHH.out (fun _ _ e => e)).trans ts (fun _ _ e => .inr e)
    exact q
end
end Go.Proofs.YtlcghlfmaohfeaaGreat
