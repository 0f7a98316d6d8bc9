/-
  The given answer's 'All': the walk.
  The given answer's 'All': each type as soon as what it is made of is known. (First: what stands apart from the walk.)
-/
import Derived.Test.YtlcghlfmaohfeaaGreatRtD
namespace Go.Proofs.YtlcghlfmaohfeaaGreat
open Go.RowKit Go.Maps
set_option linter.unusedVariables false
set_option maxRecDepth 100000
section
variable {rs : List (Rw × Value)} {M : Int → Ex}
theorem clamp_fine (hM : IsMeas (rowsOf rs) M) {i : Nat} {p : Rw × Value} (hp : rs[i]? = some p) : ((M i).size ≤ 16384 ↔ (roomP M p.1).size ≤ 16384) ∧ (M i).align = (roomP M p.1).align ∧ ((M i).size ≤ 16384 → (M i).size = (roomP M p.1).size) := by
  rw [hM i p.1 (rows_at hp)]
  unfold clampE
  simp only
  exact ⟨by omega, trivial, fun h => by omega⟩
/-- What the given answer knows of a type, by the sizes. -/
def Tells (M : Int → Ex) (i : Nat) (r : Rw) (y : Ly) : Prop := y.fine = decide ((M i).size ≤ 16384) ∧ (y.fine = true → y.size = (M i).size ∧ y.align = (M i).align ∧ (recK r.kind = true → y.pl = placesS (r.kind == 16) M ls0 0 r.mem))
theorem tells_of (hM : IsMeas (rowsOf rs) M) {i : Nat} {p : Rw × Value} (hp : rs[i]? = some p) {y : Ly} (h : Told M p.1 y) : Tells M i p.1 y := by
  obtain ⟨c1, c2, c3⟩ := clamp_fine hM hp
  obtain ⟨h1, h2⟩ := h
  have hf : y.fine = decide ((M i).size ≤ 16384) := by rw [h1, decide_eq_decide]; exact c1.symm
  refine ⟨hf, fun hh => ?_⟩
  obtain ⟨a, b, c⟩ := h2 hh
  have hs : (M i).size ≤ 16384 := by rw [hf] at hh; simpa using hh
  exact ⟨by rw [a, c3 hs], by rw [b, c2], c⟩
theorem unnamed (hf : FromOK rs) {i : Nat} {p : Rw × Value} (hp : rs[i]? = some p) (hk : recK p.1.kind = true) (hd : p.1.done = true) : ∀ m ∈ p.1.mem, m.bits = 0 → (m.name.toList == []) = true := by
  have hlt : i < rs.length := (List.getElem?_eq_some_iff.1 hp).1
  obtain ⟨hm, hc⟩ := enter_cut (hf.1 i p hlt hp)
  have hk2 : p.1.kind = 15 ∨ p.1.kind = 16 := by simpa [recK] using hk
  have hr : refusP rs p.1.mem = 0 := by
    rcases hc with ⟨a, b⟩ | ⟨_, ⟨a, _⟩ | ⟨_, _, a | a⟩ | ⟨a, _⟩ | ⟨a, _⟩⟩
    · omega
    · omega
    · rw [hd] at a; cases a
    · exact a
    · omega
    · omega
  intro m hmm hb
  obtain ⟨pre, he⟩ := refus_err p.1.mem [] (refus_len hr).2.2 m hmm
  obtain ⟨_, _, _, e4⟩ := memberErr_parts he
  unfold namedP at e4
  cases hn : m.name.toList with
  | nil => rfl
  | cons x l => rw [hn] at e4; simp [hb] at e4
theorem whole_done {r : Rw} (hw : wholeR r = true) (hk : recK r.kind = true) : r.done = true := by
  have h14 : ¬ r.kind = 14 := by simp [recK] at hk; omega
  unfold wholeR at hw
  rw [if_neg h14, if_pos hk] at hw
  exact hw
/-- What is known so far is right. -/
def Know (rs : List (Rw × Value)) (M : Int → Ex) (ys : List Ly) (kn : Nat → Bool) : Prop := ∀ (i : Nat) (p : Rw × Value), rs[i]? = some p → kn i = true → wholeR p.1 = true ∧ ∃ y, ys[i]? = some y ∧ Tells M i p.1 y
theorem know_at {ys : List Ly} {kn : Nat → Bool} (h : Know rs M ys kn) {x : Int} (x0 : 0 ≤ x) (xl : x.toNat < rs.length) (hk : kn x.toNat = true) : ∃ (t : Nat) (y : Ly) (q : Rw × Value), x = t ∧ rs[t]? = some q ∧ wholeR q.1 = true ∧ ys[t]? = some y ∧ y.fine = decide ((M x).size ≤ 16384) ∧ (y.fine = true → y.size = (M x).size ∧ y.align = (M x).align) := by
  obtain ⟨t, rfl⟩ : ∃ t : Nat, x = t := ⟨x.toNat, by omega⟩
  rw [Int.toNat_natCast] at xl hk
  obtain ⟨q, hq⟩ : ∃ q, rs[t]? = some q := ⟨_, List.getElem?_eq_getElem xl⟩
  obtain ⟨hw, y, hy, h1, h2⟩ := h t q hq hk
  exact ⟨t, y, q, rfl, hq, hw, hy, h1, fun hh => ⟨(h2 hh).1, (h2 hh).2.1⟩⟩
/-- What 'of' asks. -/
theorem of_asks (hf : FromOK rs) (hM : IsMeas (rowsOf rs) M) {ys : List Ly} {kn : Nat → Bool} (hkn : Know rs M ys kn) {i : Nat} {p : Rw × Value} (hp : rs[i]? = some p) (hw : wholeR p.1 = true) (hr : readyP p.1 kn = true) :
    (p.1.kind = 14 → ∃ (t : Nat) (y : Ly), p.1.elem = t ∧ ys[t]? = some y ∧ y.fine = decide ((M p.1.elem).size ≤ 16384) ∧ (y.fine = true → y.size = (M p.1.elem).size ∧ y.align = (M p.1.elem).align) ∧ ExOK (M p.1.elem) ∧ 1 ≤ p.1.len ∧ p.1.len ≤ 16384) ∧
    (recK p.1.kind = true → ∀ m ∈ p.1.mem, MemK M ys m) ∧ (recK p.1.kind = true → (roomP M p.1).size ≤ 16384 → ∀ m ∈ p.1.mem, (M m.type).size ≤ 16384) ∧ (¬ p.1.kind = 14 → recK p.1.kind = false → widthP p.1.kind ≤ 16384) := by
  obtain ⟨rank, hrk⟩ := ok_rank hf
  have hpt := hrk i p.1 (rows_at hp)
  refine ⟨fun h14 => ?_, fun hk => ?_, fun hk hz => ?_, fun h14 hk => ?_⟩
  · obtain ⟨e0, el, hwe, hln, _⟩ := ok_arr hf hp h14
    obtain ⟨⟨x0, xl⟩, _⟩ := hpt p.1.elem (by unfold partsR; rw [if_pos h14]; simp)
    have hk : kn p.1.elem.toNat = true := by unfold readyP at hr; rw [if_pos h14] at hr; exact hr
    obtain ⟨t, y, q, h1, h2, h3, h4, h5, h6⟩ := know_at hkn x0 xl hk
    have hlen : 1 ≤ p.1.len := by
      unfold wholeR at hw
      rw [if_pos h14] at hw
      simp [lenK] at hln
      simp at hw
      omega
    refine ⟨t, y, h1, h4, h5, h6, by rw [h1]; exact meas_ok hf hM t q h2 h3, hlen, ?_⟩
    simp [lenK] at hln
    omega
  · have hd := whole_done hw hk
    have h14 : ¬ p.1.kind = 14 := by simp [recK] at hk; omega
    have hmem := ok_members hf hp hk hd
    intro m hm
    obtain ⟨⟨x0, xl⟩, _⟩ := hpt m.type (by unfold partsR; rw [if_neg h14]; exact List.mem_map.2 ⟨m, hm, rfl⟩)
    have hkm : kn m.type.toNat = true := by unfold readyP at hr; rw [if_neg h14, List.all_eq_true] at hr; exact hr m hm
    obtain ⟨t, y, q, h1, h2, h3, h4, h5, h6⟩ := know_at hkn x0 xl hkm
    exact ⟨by rw [h1]; exact meas_ok hf hM t q h2 h3, bits_ok hf hM (hmem m hm).1 (hmem m hm).2, had_named hf hp hk hd m hm, unnamed hf hp hk hd m hm, t, y, h1, h4, h5, h6⟩
  · have hd := whole_done hw hk
    have hmem := ok_members hf hp hk hd
    intro m hm
    by_cases hb : m.bits = -1
    · exact member_size hf hM hp hw hk ((clamp_fine hM hp).1.2 hz) m hm hb
    · obtain ⟨q, hq, hwq, q0, ql⟩ := whole_at (hmem m hm).1
      obtain ⟨k, hk'⟩ : ∃ k : Nat, m.type = k := ⟨m.type.toNat, by omega⟩
      have hbt := (hmem m hm).2
      rw [hk'] at hbt hq ⊢
      rw [Int.toNat_natCast] at hq
      rw [kindP_some hq] at hbt
      simp only [bitsP, Bool.or_eq_true, beq_iff_eq, Bool.and_eq_true, decide_eq_true_eq] at hbt
      rcases hbt with c | ⟨⟨hi, _⟩, _⟩
      · exact absurd c hb
      · rw [meas_int hM hq (.inl hi)]
        have := width_cases _ (.inl hi)
        simp only
        omega
  · have hk2 : intK p.1.kind = true ∨ p.1.kind = 13 := by
      unfold wholeR at hw
      rw [if_neg h14, if_neg (by rw [hk]; decide)] at hw
      simpa using hw
    have := width_cases _ hk2
    omega
theorem no_members (hf : FromOK rs) {i : Nat} {p : Rw × Value} (hp : rs[i]? = some p) (h14 : ¬ p.1.kind = 14) (hk : recK p.1.kind = false) : p.1.mem = [] := by
  have hlt : i < rs.length := (List.getElem?_eq_some_iff.1 hp).1
  obtain ⟨hm, hc⟩ := enter_cut (hf.1 i p hlt hp)
  by_cases hz : p.1.mem = []
  · exact hz
  · have hl : 0 < p.1.mem.length := by
      cases hh : p.1.mem with
      | nil => exact absurd hh hz
      | cons a l => simp
    unfold moreP ownDone at hm
    rw [hk] at hm
    simp [hl] at hm
/-- Where nothing more is ready all is known. -/
theorem all_known (hf : FromOK rs) {kn : Nat → Bool} (h : ∀ (i : Nat) (p : Rw × Value), rs[i]? = some p → wholeR p.1 = true → kn i = false → readyP p.1 kn = false) : ∀ (i : Nat) (p : Rw × Value), rs[i]? = some p → wholeR p.1 = true → kn i = true := by
  obtain ⟨rank, hrk⟩ := ok_rank hf
  have key : ∀ (n i : Nat) (p : Rw × Value), rank i < n → rs[i]? = some p → wholeR p.1 = true → kn i = true := by
    intro n
    induction n with
    | zero => intro i p hn; omega
    | succ n ih =>
      intro i p hn hp hw
      cases hk : kn i with
      | true => rfl
      | false =>
        have hr := h i p hp hw hk
        exfalso
        have hpart : ∀ x ∈ partsR p.1, wholeP rs x = true → kn x.toNat = true := by
          intro x hx hwx
          obtain ⟨⟨x0, xl⟩, hlt⟩ := hrk i p.1 (rows_at hp) x hx
          obtain ⟨q, hq, hwq, _, _⟩ := whole_at hwx
          exact ih x.toNat q (by omega) hq hwq
        by_cases h14 : p.1.kind = 14
        · obtain ⟨_, _, hwe, _⟩ := ok_arr hf hp h14
          have := hpart p.1.elem (by unfold partsR; rw [if_pos h14]; simp) hwe
          unfold readyP at hr
          rw [if_pos h14, this] at hr
          cases hr
        · unfold readyP at hr
          rw [if_neg h14, List.all_eq_false] at hr
          obtain ⟨m, hm, hmk⟩ := hr
          by_cases hkk : recK p.1.kind = true
          · have hmem := ok_members hf hp hkk (whole_done hw hkk)
            exact hmk (hpart m.type (by unfold partsR; rw [if_neg h14]; exact List.mem_map.2 ⟨m, hm, rfl⟩) (hmem m hm).1)
          · have := no_members hf hp h14 (by simpa using hkk)
            rw [this] at hm
            cases hm
  exact fun i p hp hw => key (rank i + 1) i p (by omega) hp hw
end
/-- How many are not known. -/
def isFv : Value → Bool
  | .bool false => true
  | _ => false
def unkn (w : World) (g : Nat) : Nat := match w.heap[g]? with
  | some (.cells cs _ _) => cs.toList.countP isFv
  | _ => 0
def boolV : Value → Nat
  | .bool true => 1
  | _ => 0
def unk (kn : Nat → Bool) (N : Nat) : Nat := (List.range N).countP fun j => !kn j
theorem unkn_eq {w : World} {g N : Nat} {kn : Nat → Bool} (h : BoR w g N kn) : unkn w g = unk kn N := by
  obtain ⟨cs, h1, h2, h3⟩ := h
  unfold unkn unk
  rw [h1]
  simp only
  have e : cs.toList = (List.range N).map fun j => Value.bool (kn j) := by
    apply List.ext_getElem?
    intro j
    by_cases hj : j < N
    · rw [Array.getElem?_toList, h3 j hj]
      simp [hj]
    · rw [List.getElem?_eq_none (by simpa [h2] using hj), List.getElem?_eq_none (by simpa using hj)]
  rw [e, List.countP_map]
  congr 1
  funext j
  show isFv (.bool (kn j)) = !kn j
  cases kn j <;> rfl
theorem unk_set {kn kn' : Nat → Bool} {N k : Nat} (hk : k < N) (h0 : kn k = false) (h : ∀ j, j < N → kn' j = if j = k then true else kn j) : unk kn' N < unk kn N := by
  unfold unk
  have hle : ∀ n, n ≤ N → (List.range n).countP (fun j => !kn' j) ≤ (List.range n).countP (fun j => !kn j) ∧ (k < n → (List.range n).countP (fun j => !kn' j) < (List.range n).countP (fun j => !kn j)) := by
    intro n
    induction n with
    | zero => intro _; simp
    | succ n ih =>
      intro hn
      obtain ⟨i1, i2⟩ := ih (by omega)
      have hc : ∀ f : Nat → Bool, (List.range (n + 1)).countP (fun j => !f j) = (List.range n).countP (fun j => !f j) + (if f n then 0 else 1) := fun f => by
        rw [List.range_succ, List.countP_append]
        cases hfn : f n <;> simp [hfn]
      rw [hc kn', hc kn, h n (by omega)]
      by_cases e : n = k
      · subst e
        rw [if_pos rfl, h0]
        simp
        omega
      · rw [if_neg e]
        refine ⟨by omega, fun hlt => ?_⟩
        have := i2 (by omega)
        omega
  exact (hle N (Nat.le_refl _)).2 hk
def ly0 : Ly := ⟨0, 0, .slice none 0 0, [], false⟩
theorem infoTLy : (Tryz.prog.info? TLy).map (fun i => (i.zero, i.size, i.bytes)) = some (some (.agg #[.int .i64 0, .int .i64 0, .slice none 0 0, .bool false]), 4, 48) := by kernel_rfl
theorem infoBo : (Tryz.prog.info? 4).map (fun i => (i.zero, i.size, i.bytes)) = some (some (.bool false), 1, 1) := by kernel_rfl
theorem mk_bools (N : Nat) (hN : N ≤ 131072) (u : World) : (Instr.makeSlice 105 (.int .i64 (N : Int)) (.int .i64 (N : Int))).run Tryz.prog u = .ok (.slice (some ⟨u.heap.size, 0, none⟩) N N) (u.alloc (.cells (madeCells #[.bool false] N) 4)) := by
  obtain ⟨i0, hi, hz0, hz1, hz2⟩ := info_parts infoBo
  have h := run_make (P := Tryz.prog) u 105 4 i0 (.bool false) Tryz.underlying105 hi hz0 .i64 .i64 N N (by omega) (by omega) (by rw [hz2]; omega) (by omega)
  simpa [hz1, Value.cells] using h
theorem mk_lys (N : Nat) (hN : N ≤ 131072) (u : World) : (Instr.makeSlice 124 (.int .i64 (N : Int)) (.int .i64 (N : Int))).run Tryz.prog u = .ok (.slice (some ⟨u.heap.size, 0, none⟩) N N) (u.alloc (.cells (madeCells #[.int .i64 0, .int .i64 0, .slice none 0 0, .bool false] (N * 4)) TLy)) := by
  obtain ⟨i0, hi, hz0, hz1, hz2⟩ := info_parts infoTLy
  have h := run_make (P := Tryz.prog) u 124 TLy i0 (.agg #[.int .i64 0, .int .i64 0, .slice none 0 0, .bool false]) Tryz.underlying124 hi hz0 .i64 .i64 N N (by omega) (by omega) (by rw [hz2]; omega) (by omega)
  simpa [hz1, Value.cells] using h
theorem made_lys (N : Nat) : (madeCells #[.int .i64 0, .int .i64 0, .slice none 0 0, .bool false] (N * 4)).toList = lysC (List.replicate N ly0) := by
  apply List.ext_getElem?
  intro i
  by_cases hi : i < N * 4
  · have h1 := lysC_at (List.replicate N ly0) (i / 4) ly0 (by rw [List.getElem?_replicate, if_pos (by omega)]) (i % 4) (by omega)
    rw [show i / 4 * 4 + i % 4 = i by omega] at h1
    rw [h1]
    simp only [madeCells, Array.toList_map, List.getElem?_map, Array.toList_range, List.getElem?_range hi, Option.map_some]
    have h4 : i % 4 < 4 := by omega
    show some (#[Value.int .i64 0, .int .i64 0, .slice none 0 0, .bool false][i % 4]!) = _
    generalize i % 4 = k at h4 ⊢
    match k, h4 with
    | 0, _ => rfl
    | 1, _ => rfl
    | 2, _ => rfl
    | 3, _ => rfl
  · rw [List.getElem?_eq_none (by simp [madeCells]; omega), List.getElem?_eq_none (by rw [lysC_length]; simp; omega)]
def set4y (w : World) (g j : Nat) (y : Ly) : World := (((w.setCell ⟨g, j, none⟩ (.int .i64 y.size)).setCell ⟨g, j + 1, none⟩ (.int .i64 y.align)).setCell ⟨g, j + 2, none⟩ y.L).setCell ⟨g, j + 3, none⟩ (.bool y.fine)
theorem set_lys : ∀ (ys : List Ly) (i : Nat) (y : Ly), i < ys.length → ((((lysC ys).set (i * 4) (.int .i64 y.size)).set (i * 4 + 1) (.int .i64 y.align)).set (i * 4 + 2) y.L).set (i * 4 + 3) (.bool y.fine) = lysC (ys.set i y)
  | [], i, y, h => by simp at h
  | a :: l, 0, y, h => rfl
  | a :: l, i + 1, y, h => by
    have ih := set_lys l i y (by simpa using h)
    show _ = lyC a ++ lysC (l.set i y)
    rw [← ih]
    show ((((lyC a ++ lysC l).set ((i + 1) * 4) _).set ((i + 1) * 4 + 1) _).set ((i + 1) * 4 + 2) _).set ((i + 1) * 4 + 3) _ = _
    rw [show (i + 1) * 4 = i * 4 + 4 by omega]
    rfl
theorem turned_y (w : World) (g j : Nat) (y : Ly) : Turned w (set4y w g j y) (fun k => k = g) :=
  (((Turned.setCell w g j _ (S := fun k => k = g) rfl).trans (Turned.setCell _ g (j + 1) _ (S := fun k => k = g) rfl) (fun _ _ h => h)).trans (Turned.setCell _ g (j + 2) _ (S := fun k => k = g) rfl) (fun _ _ h => h)).trans (Turned.setCell _ g (j + 3) _ (S := fun k => k = g) rfl) (fun _ _ h => h)
theorem LyR.set {base : Nat} {w : World} {g : Nat} {ys : List Ly} (h : LyR base w g ys) {i : Nat} (hi : i < ys.length) {y : Ly} (ho : w.ownsRow base TPl 5 y.L y.pl.length (plCells y.pl)) : LyR base (set4y w g (i * 4) y) g (ys.set i y) := by
  obtain ⟨cs, h1, h2⟩ := h.row
  have keep : ∀ z : Ly, w.ownsRow base TPl 5 z.L z.pl.length (plCells z.pl) → (set4y w g (i * 4) y).ownsRow base TPl 5 z.L z.pl.length (plCells z.pl) := fun z hz => ownsRow_turned hz (turned_y w g (i * 4) y) (fun k hk e => by obtain ⟨_, cur, hc⟩ := ownsRow_at hz hk; exact tag_ne hc h1 (by decide) e)
  refine ⟨⟨_, heap_setCell (heap_setCell (heap_setCell (heap_setCell h1 _) _) _) _, ?_⟩, fun z hz => ?_⟩
  · simp only [Array.toList_setIfInBounds]
    rw [h2]
    exact set_lys ys i y hi
  · rcases List.mem_or_eq_of_mem_set hz with c | c
    · exact keep z (h.own z c)
    · subst c
      exact keep z ho
/-- While all types are told. -/
structure AS (w W : World) (N : Nat) (ys : List Ly) (kn : Nat → Bool) : Prop where
  below : Below w.heap.size w W
  ly : LyR w.heap.size W w.heap.size ys
  kn : BoR W (w.heap.size + 1) N kn
  len : ys.length = N
theorem AS.bel {w W W' : World} {N : Nat} {ys : List Ly} {kn : Nat → Bool} (h : AS w W N ys kn) (hb : Below W.heap.size W W') : AS w W' N ys kn := ⟨h.below.trans (hb.mono h.below.size), h.ly.below hb, h.kn.below hb, h.len⟩
theorem Know.set {rs : List (Rw × Value)} {M : Int → Ex} {ys : List Ly} {kn kn' : Nat → Bool} {N k : Nat} (hN : rs.length = N) (h : Know rs M ys kn) (hl : ys.length = N) {p : Rw × Value} (hp : rs[k]? = some p) (hw : wholeR p.1 = true) {y : Ly} (hy : Tells M k p.1 y) (hkn : ∀ j, j < N → kn' j = if j = k then true else kn j) : Know rs M (ys.set k y) kn' := by
  intro i q hq hi
  have hlt : i < rs.length := (List.getElem?_eq_some_iff.1 hq).1
  by_cases e : i = k
  · subst e
    rw [hp] at hq
    injection hq with hq
    subst hq
    refine ⟨hw, y, ?_, hy⟩
    rw [List.getElem?_set_self (by omega)]
  · rw [hkn i (by omega), if_neg e] at hi
    obtain ⟨a, z, hz, ht⟩ := h i q hq hi
    refine ⟨a, z, ?_, ht⟩
    rw [List.getElem?_set_ne (fun h => e h.symm)]
    exact hz
end Go.Proofs.YtlcghlfmaohfeaaGreat
namespace Go.Proofs.YtlcghlfmaohfeaaGreat
open Go.RowKit Go.Maps
set_option linter.unusedVariables false
set_option maxRecDepth 100000
abbrev WL (w : World) (N : Nat) : World := w.alloc (.cells (madeCells #[.int .i64 0, .int .i64 0, .slice none 0 0, .bool false] (N * 4)) TLy)
theorem same_at {rs rs2 : List (Rw × Value)} (h : rs2.map (·.1) = rs.map (·.1)) {i : Nat} {q : Rw × Value} (hq : rs2[i]? = some q) : ∃ p, rs[i]? = some p ∧ p.1 = q.1 := by
  have := fst_at h i
  rw [hq] at this
  cases hp : rs[i]? with
  | none => rw [hp] at this; cases this
  | some p => rw [hp] at this; exact ⟨p, rfl, by simpa using this.symm⟩
theorem LyR.setB {base : Nat} {w : World} {g gk k N : Nat} {ys : List Ly} {kn : Nat → Bool} {v : Value} (h : LyR base w g ys) (hb : BoR w gk N kn) (hne : g ≠ gk) : LyR base (w.setCell ⟨gk, k, none⟩ v) g ys := by
  obtain ⟨cs, h1, h2⟩ := h.row
  obtain ⟨bs, hb1, _⟩ := hb
  have ht : Turned w (w.setCell ⟨gk, k, none⟩ v) (fun x => x = gk) := Turned.setCell _ _ _ _ rfl
  exact ⟨⟨cs, blk_t h1 ht hne, h2⟩, fun y hy => ownsRow_turned (h.own y hy) ht (fun x hx e => by obtain ⟨_, cur, hc⟩ := ownsRow_at (h.own y hy) hx; exact tag_ne hc hb1 (by decide) e)⟩
/-- What All answers. -/
def AllP (rs : List (Rw × Value)) (M : Int → Ex) (w : World) (w' : World) : Prop := ∃ ys : List Ly, Below w.heap.size w w' ∧ LyR w.heap.size w' w.heap.size ys ∧ ys.length = rs.length ∧ ∀ (i : Nat) (p : Rw × Value), rs[i]? = some p → wholeR p.1 = true → ∃ y, ys[i]? = some y ∧ Tells M i p.1 y
section
variable {w : World} {M : Int → Ex} {rb : Nat} {rv : Value} {rs rs2 : List (Rw × Value)}
set_option maxHeartbeats 16000000 in
theorem all_c (h : RT w rb rv rs2) (hrows : rs2.map (·.1) = rs.map (·.1)) (hf : FromOK rs) (hM : IsMeas (rowsOf rs) M) (hs : ∀ p ∈ rs, Sane p.1) (h1 : 0 < rs.length) :
    Calls Tryz.prog 60 #[.pointer (some ⟨rb, 0, none⟩)] w fun e w' => e = .returned (.slice (some ⟨w.heap.size, 0, none⟩) rs.length rs.length) ∧ AllP rs M w w' := by
  obtain ⟨rp, rc, rfl, hrc⟩ := h.sl
  have hlen : rs2.length = rs.length := fst_len hrows
  have h512 := h.len
  have HRT : Hid (RT w rb (.slice rp rs2.length rc) rs2) := h
  have HROWS : Hid (rs2.map (·.1) = rs.map (·.1)) := hrows
  have HF : Hid (FromOK rs) := hf
  have HMM : Hid (IsMeas (rowsOf rs) M) := hM
  have HSN : Hid (∀ p ∈ rs, Sane p.1) := hs
  have HCT : Hid (∀ Y, Below w.heap.size w Y → Y.cell? ⟨rb, 0, none⟩ = some (.slice rp rs2.length rc)) := fun Y hY => (h.below hY).cell
  generalize hN : rs2.length = N at *
  have HN2 : Hid (rs2.length = N) := hN
  have HN1 : Hid (rs.length = N) := hlen.symm
  have hmk := mk_lys N (by omega)
  have hmb := mk_bools N (by omega)
  have b1 : Below w.heap.size w (WL w N) := below1 w _
  have b2 : Below w.heap.size w ((WL w N).alloc (.cells (madeCells #[.bool false] N) 4)) := b1.trans ((below1 (WL w N) _).mono b1.size)
  have hz1 : (WL w N).heap.size = w.heap.size + 1 := by simp
  have HA0 : Hid (AS w ((WL w N).alloc (.cells (madeCells #[.bool false] N) 4)) N (List.replicate N ly0) (fun _ => false)) := by
    refine ⟨b2, ⟨⟨_, blk_b (heap_r0 w _) (below1 (WL w N) _), made_lys N⟩, fun y hy => ?_⟩, ?_, by simp⟩
    · obtain ⟨_, rfl⟩ := List.mem_replicate.1 hy
      exact World.ownsRow_nil _ _ _ _
    · have := BoR.made (WL w N) N
      rw [hz1] at this
      exact this
  have HK0 : Hid (Know rs M (List.replicate N ly0) (fun _ => false)) := fun i p _ h => by cases h
  have t0 := HCT.out w (Below.refl _ _)
  have t1 := HCT.out _ b1
  have nt := not_t
  have nf := not_f
  have hret : (rs.length : Nat) = N := HN1.out
  rw [hret]
  clear hret h hrows hf hM hs hlen hN b1 b2 hz1
  go_enter Tryz.func60, Tryz.ntmps60
  go_wp2
  go_loopw [5] (fun av wr => ∃ (ag : Bool) (ys : List Ly) (kn : Nat → Bool), av = .bool ag ∧ Hid (AS w wr N ys kn) ∧ Hid (Know rs M ys kn) ∧ Hid (ag = false → ∀ (i : Nat) (p : Rw × Value), rs[i]? = some p → wholeR p.1 = true → kn i = false → readyP p.1 kn = false)) (fun av wr => 2 * unkn wr (w.heap.size + 1) + boolV av)
  case atStart => exact ⟨true, _, _, rfl, HA0, HK0, fun h => by cases h⟩
  case round =>
    obtain ⟨ag, ys, kn, rfl, HA, HK, HSAT⟩ := hrel
    clear HA0 HK0 t0 t1 hmk hmb
    cases ag with
    | false =>
      go_wp2
      go_ret
      exact ⟨rfl, ys, HA.out.below, HA.out.ly, by rw [HA.out.len, HN1.out], fun i p hp hw => (HK.out i p hp (all_known HF.out (HSAT.out (by first | rfl | trivial)) i p hp hw)).2⟩
    | true =>
      go_wp2
      obtain ⟨u0, hu0⟩ : ∃ u0, u0 = unkn wr (w.heap.size + 1) := ⟨_, rfl⟩
      have HU0 : Hid (u0 = unkn wr (w.heap.size + 1)) := hu0
      obtain ⟨wo, hwo⟩ : ∃ wo, wo = wr := ⟨_, rfl⟩
      have HWO : Hid (wo = wr) := hwo
      rw [← hwo] at HU0 hu0 HA ⊢
      clear hu0 HSAT hwo
      go_loopw [5, 6] (fun av iv wr => ∃ (k : Nat) (ag : Bool) (ys : List Ly) (kn : Nat → Bool), iv = .int .i64 k ∧ k ≤ N ∧ av = .bool ag ∧ Hid (AS w wr N ys kn) ∧ Hid (Know rs M ys kn) ∧ Hid (unkn wr (w.heap.size + 1) ≤ u0 ∧ (ag = true → unkn wr (w.heap.size + 1) < u0)) ∧ Hid (ag = false → ∀ (i : Nat) (p : Rw × Value), i < k → rs[i]? = some p → wholeR p.1 = true → kn i = false → readyP p.1 kn = false)) (fun av iv _ => N - (intOf iv).toNat)
      case atStart => exact ⟨0, false, ys, kn, rfl, Nat.zero_le _, rfl, HA, HK, ⟨by rw [HU0.out]; exact Nat.le_refl _, fun h => by cases h⟩, fun _ i p h => by omega⟩
      case round =>
        clear HA HK
        obtain ⟨k, ag, ys, kn, rfl, hkN, rfl, HA, HK, HU, HS⟩ := hrel
        have tc := HCT.out wr HA.out.below
        by_cases hlt : k < N
        · obtain ⟨q, hq⟩ : ∃ q, rs2[k]? = some q := ⟨_, List.getElem?_eq_getElem (by rw [HN2.out]; exact hlt)⟩
          obtain ⟨p, hp, hpq⟩ := same_at HROWS.out hq
          have HQ : Hid (rs2[k]? = some q) := hq
          have HP : Hid (rs[k]? = some p) := hp
          have HPQ : Hid (p.1 = q.1) := hpq
          obtain ⟨gr, og, cr, hv, hcap, hcell0⟩ := HRT.out.at hq
          injection hv with e1 e2 e3
          subst e1 e3
          have hrow : ∀ Y, Below w.heap.size w Y → ∀ j, j < 6 → Y.cell? ⟨gr, og + k * 6 + j, none⟩ = (rwCells q.1 q.2)[j]? := fun Y hY => by
            obtain ⟨g', o', c', hv', _, hc'⟩ := (HRT.out.below hY).at hq
            injection hv' with a1 a2 a3
            injection a1 with a1
            injection a1 with a1 a4
            subst a1 a4
            exact hc'
          have HROW : Hid (∀ Y, Below w.heap.size w Y → ∀ j, j < 6 → Y.cell? ⟨gr, og + k * 6 + j, none⟩ = (rwCells q.1 q.2)[j]?) := hrow
          have kc := HA.out.kn.cell hlt
          have hrcap : N ≤ rc := by rw [← HN2.out]; exact hcap
          clear hcell0 hrow e2 hq hp hpq hcap
          cases hkk : kn k with
          | true =>
            rw [hkk] at kc
            have HKK : Hid (kn k = true) := hkk
            clear hkk
            go_wp2
            refine ⟨⟨k + 1, ag, ys, kn, by go_num, by omega, rfl, HA, HK, HU, fun ha i p' hi hp' hw hki => ?_⟩, by simp [intOf]; omega⟩
            by_cases hik : i < k
            · exact HS.out ha i p' hik hp' hw hki
            · obtain rfl : i = k := by omega
              rw [HKK.out] at hki
              cases hki
          | false =>
            rw [hkk] at kc
            have HKK : Hid (kn k = false) := hkk
            have cW := rWhole_c (HRT.out.below HA.out.below) (k : Int)
            have hwq : rWholeP rs2 (k : Int) = wholeR p.1 := by
              rw [rWholeP_some HQ.out, whole_same (HSN.out p (List.mem_of_getElem? HP.out)), HPQ.out]
            rw [hwq] at cW
            have HKnext : Hid (∀ (hno : wholeR p.1 = true → readyP p.1 kn = false), ag = false → ∀ (i : Nat) (p : Rw × Value), i < k + 1 → rs[i]? = some p → wholeR p.1 = true → kn i = false → readyP p.1 kn = false) := fun hno ha i p' hi hp' hw hki => by
              by_cases hik : i < k
              · exact HS.out ha i p' hik hp' hw hki
              · obtain rfl : i = k := by omega
                rw [HP.out] at hp'
                injection hp' with hp'
                subst hp'
                exact hno hw
            clear hkk hwq
            cases hwh : wholeR p.1 with
            | false =>
              rw [hwh] at cW
              have HWH : Hid (wholeR p.1 = false) := hwh
              clear hwh
              go_wp2_with (go_at_call 59; refine cW.mono ?_; rintro e w' ⟨rfl, hw⟩; rw [hw]; clear hw w')
              exact ⟨⟨k + 1, ag, ys, kn, by go_num, by omega, rfl, HA, HK, HU, HKnext.out (fun h => by rw [HWH.out] at h; cases h)⟩, by simp [intOf]; omega⟩
            | true =>
              rw [hwh] at cW
              have HWH : Hid (wholeR p.1 = true) := hwh
              have hltR : k < rs.length := (List.getElem?_eq_some_iff.1 HP.out).1
              obtain ⟨rank, hrk⟩ := ok_rank HF.out
              have hms : MemSl wr q.2 q.1.mem := (HRT.out.below HA.out.below).rows.2 q (List.mem_of_getElem? HQ.out)
              have h64 : q.1.mem.length ≤ 64 := by rw [← HPQ.out]; have := (enter_parts (HF.out.1 k p hltR HP.out) hltR).2; omega
              have cR := ready_c (r := q.1) hms h64 HA.out.kn h512 (fun x hx => by rw [← HPQ.out] at hx; have := (hrk k p.1 (rows_at HP.out) x hx).1; rw [HN1.out] at this; exact this)
              rw [← HPQ.out] at cR
              have HH64 : Hid (q.1.mem.length ≤ 64) := h64
              have d0 := HROW.out wr HA.out.below 0 (by omega)
              have d1 := HROW.out wr HA.out.below 1 (by omega)
              have d2 := HROW.out wr HA.out.below 2 (by omega)
              have d3 := HROW.out wr HA.out.below 3 (by omega)
              have d4 := HROW.out wr HA.out.below 4 (by omega)
              have d5 := HROW.out wr HA.out.below 5 (by omega)
              rw [← HPQ.out] at d0 d1 d2 d3 d4 d5
              simp only [rwCells, Nat.add_zero, List.getElem?_cons_zero, List.getElem?_cons_succ] at d0 d1 d2 d3 d4 d5
              simp only [rwCells] at cR
              clear hwh hrk h64 hms
              cases hrd : readyP p.1 kn with
              | false =>
                rw [hrd] at cR
                have HRD : Hid (readyP p.1 kn = false) := hrd
                clear hrd
                go_wp2_with (first | (go_at_call 59; refine cW.mono ?_; rintro e w' ⟨rfl, hw⟩; rw [hw]; clear hw w') | (go_at_call 88; refine cR.mono ?_; rintro e w5 ⟨rfl, hb5⟩; have HA5 : Hid (AS w w5 N ys kn) := HA.out.bel hb5; have hue := (unkn_eq HA5.out.kn).trans (unkn_eq HA.out.kn).symm; have HUE : Hid (unkn w5 (w.heap.size + 1) = unkn wr (w.heap.size + 1)) := hue; clear hb5 hue))
                exact ⟨⟨k + 1, ag, ys, kn, by go_num, by omega, rfl, HA5, HK, by rw [HUE.out]; exact HU.out, HKnext.out (fun _ => HRD.out)⟩, by simp [intOf]; omega⟩
              | true =>
                rw [hrd] at cR
                have HRD : Hid (readyP p.1 kn = true) := hrd
                clear hrd HKnext
                obtain ⟨y0, hy0⟩ : ∃ y0, ys[k]? = some y0 := ⟨_, List.getElem?_eq_getElem (by rw [HA.out.len]; exact hlt)⟩
                have HY0 : Hid (ys[k]? = some y0) := hy0
                clear hy0
                go_upto_region 10 with (first | (go_at_call 59; refine cW.mono ?_; rintro e w' ⟨rfl, hw⟩; rw [hw]; clear hw w') | (go_at_call 88; refine cR.mono ?_; rintro e w5 ⟨rfl, hb5⟩; have HA5 : Hid (AS w w5 N ys kn) := HA.out.bel hb5; have hue := (unkn_eq HA5.out.kn).trans (unkn_eq HA.out.kn).symm; have HUE : Hid (unkn w5 (w.heap.size + 1) = unkn wr (w.heap.size + 1)) := hue; clear hb5 hue))
                clear d0 d1 d2 d3 d4 d5 cR cW tc kc
                obtain ⟨as1, as2, as3, as4⟩ := of_asks HF.out HMM.out HK.out HP.out HWH.out HRD.out
                have hms5 : MemSl w5 q.2 p.1.mem := by rw [HPQ.out]; exact (HRT.out.below HA5.out.below).rows.2 q (List.mem_of_getElem? HQ.out)
                have cO : Calls Tryz.prog 89 #[.agg #[.int .i64 p.1.kind, .int .i64 p.1.elem, .int .i64 p.1.len, .string p.1.tag, q.2, .bool p.1.done], .slice (some ⟨w.heap.size, 0, none⟩) N N] w5 (fun e w' => ∃ (sz al : Int) (lp : Option Addr) (lc : Nat) (pl : List Pl) (f : Bool), e = .returned (.agg #[.int .i64 sz, .int .i64 al, .slice lp pl.length lc, .bool f]) ∧ Below w5.heap.size w5 w' ∧ w'.ownsRow w5.heap.size TPl 5 (.slice lp pl.length lc) pl.length (plCells pl) ∧ Told M p.1 ⟨sz, al, .slice lp pl.length lc, pl, f⟩) := by
                  have c := of_c (M := M) hms5 (by rw [HPQ.out]; exact HH64.out) HA5.out.ly (by rw [HA5.out.len]; exact h512) as1 as2 as3 as4
                  rw [HA5.out.len] at c
                  exact c.mono (fun e w' ⟨⟨sz, al, Ls, pl, f⟩, he, hb, how, ht⟩ => by unfold OwnP at how; obtain ⟨lp, lc, hL⟩ := slice_of_own how; simp only at hL; subst hL; exact ⟨sz, al, lp, lc, pl, f, he, hb, how, ht⟩)
                have d0 := HROW.out w5 HA5.out.below 0 (by omega)
                have d1 := HROW.out w5 HA5.out.below 1 (by omega)
                have d2 := HROW.out w5 HA5.out.below 2 (by omega)
                have d3 := HROW.out w5 HA5.out.below 3 (by omega)
                have d4 := HROW.out w5 HA5.out.below 4 (by omega)
                have d5 := HROW.out w5 HA5.out.below 5 (by omega)
                rw [← HPQ.out] at d0 d1 d2 d3 d4 d5
                simp only [rwCells, Nat.add_zero, List.getElem?_cons_zero, List.getElem?_cons_succ] at d0 d1 d2 d3 d4 d5
                have tc := HCT.out w5 HA5.out.below
                clear as1 as2 as3 as4 hms5
                go_upto_region 11 with (go_at_call 89; refine cO.mono ?_; rintro e w6 ⟨sz, al, lp, lc, pl, f, rfl, hb6, how, htd⟩; have HA6 : Hid (AS w w6 N ys kn) := HA5.out.bel hb6; have HOW : Hid (w6.ownsRow w.heap.size TPl 5 (.slice lp pl.length lc) pl.length (plCells pl)) := ownsRow_base how HA5.out.below.size; have HTD : Hid (Told M p.1 ⟨sz, al, .slice lp pl.length lc, pl, f⟩) := htd; have hue := (unkn_eq HA6.out.kn).trans (unkn_eq HA5.out.kn).symm; have HUE6 : Hid (unkn w6 (w.heap.size + 1) = unkn w5 (w.heap.size + 1)) := hue; have hcc := fun j hj => HA6.out.ly.cell HY0.out (k := j) hj; have g0 := hcc 0 (by omega); have g1 := hcc 1 (by omega); have g2 := hcc 2 (by omega); have g3 := hcc 3 (by omega); simp only [lyC, Nat.add_zero, List.getElem?_cons_zero, List.getElem?_cons_succ] at g0 g1 g2 g3; have gf : ∀ j, w6.frozen? ⟨w.heap.size, j, none⟩ = false := (by obtain ⟨cs, hcs, _⟩ := HA6.out.ly.row; exact fun j => frozen_of hcs j); clear hb6 how htd hue hcc cO)
                refine (?_ : Code.wp _ _ _ _ (set4y w6 w.heap.size (k * 4) ⟨sz, al, .slice lp pl.length lc, pl, f⟩))
                have hlen6 : k < ys.length := by rw [HA6.out.len]; exact hlt
                have hT := turned_y w6 w.heap.size (k * 4) ⟨sz, al, .slice lp pl.length lc, pl, f⟩
                have HA7 : Hid (AS w (set4y w6 w.heap.size (k * 4) ⟨sz, al, .slice lp pl.length lc, pl, f⟩) N (ys.set k ⟨sz, al, .slice lp pl.length lc, pl, f⟩) kn) := ⟨⟨hT.os.trans HA6.out.below.os, hT.tape.trans HA6.out.below.tape, hT.output.trans HA6.out.below.output, Nat.le_trans HA6.out.below.size hT.size, fun j hj => (hT.block j (Nat.lt_of_lt_of_le hj HA6.out.below.size) (by omega)).trans (HA6.out.below.block j hj)⟩, HA6.out.ly.set hlen6 HOW.out, HA6.out.kn.turned hT (by omega), by rw [List.length_set]; exact HA6.out.len⟩
                generalize set4y w6 w.heap.size (k * 4) ⟨sz, al, .slice lp pl.length lc, pl, f⟩ = W7 at *
                clear hT g0 g1 g2 g3 gf d0 d1 d2 d3 d4 d5 tc hlen6
                have kc := HA7.out.kn.cell hlt
                have kf := HA7.out.kn.frozen k
                have HKN : Hid (∀ j, j < N → (fun j => if j = k then true else kn j) j = if j = k then true else kn j) := fun j _ => rfl
                have HA8 : Hid (AS w (W7.setCell ⟨w.heap.size + 1, k, none⟩ (.bool true)) N (ys.set k ⟨sz, al, .slice lp pl.length lc, pl, f⟩) (fun j => if j = k then true else kn j)) := ⟨HA7.out.below.setCell (p := ⟨w.heap.size + 1, k, none⟩) (by show w.heap.size ≤ w.heap.size + 1; omega) _, HA7.out.ly.setB HA7.out.kn (by omega), HA7.out.kn.set true (fun j _ => rfl), HA7.out.len⟩
                have HK8 : Hid (Know rs M (ys.set k ⟨sz, al, .slice lp pl.length lc, pl, f⟩) (fun j => if j = k then true else kn j)) := Know.set HN1.out HK.out HA.out.len HP.out HWH.out (tells_of HMM.out HP.out HTD.out) (fun j _ => rfl)
                have hul : unkn (W7.setCell ⟨w.heap.size + 1, k, none⟩ (.bool true)) (w.heap.size + 1) < u0 := by
                  rw [unkn_eq HA8.out.kn]
                  have h1 := unk_set (kn := kn) (kn' := fun j => if j = k then true else kn j) hlt HKK.out (fun j _ => rfl)
                  have h2 := HU.out.1
                  rw [unkn_eq HA.out.kn] at h2
                  omega
                have HUL : Hid (unkn (W7.setCell ⟨w.heap.size + 1, k, none⟩ (.bool true)) (w.heap.size + 1) < u0) := hul
                clear hul
                go_wp2
                exact ⟨⟨k + 1, true, _, _, by go_num, by omega, rfl, HA8, HK8, ⟨Nat.le_of_lt HUL.out, fun _ => HUL.out⟩, fun h => by cases h⟩, by simp [intOf]; omega⟩
        · obtain rfl : k = N := by omega
          go_wp2
          refine ⟨⟨ag, ys, kn, rfl, HA, HK, fun ha i p hp hw hki => HS.out ha i p (by have := (List.getElem?_eq_some_iff.1 hp).1; rw [HN1.out] at this; exact this) hp hw hki⟩, ?_⟩
          have h1 := HU.out
          have h2 := HU0.out
          rw [HWO.out] at h2
          cases ag with
          | true => have := h1.2 rfl; simp [boolV]; omega
          | false => have := h1.1; simp [boolV]; omega
end
end Go.Proofs.YtlcghlfmaohfeaaGreat
