/-
  Lines of a program's text, and how long they are.
  The map of operations: operations of package tac.
-/
import Derived.Test.YtaaphipbkpjkjaaGreatDoorNM
import Derived.Test.YtaaphipbkpjkjaaGreatDoorKJ
import Derived.StringKeys
import Derived.Test.YtaaphipbkpjkjaaGreatDoorKK
namespace Go.Proofs.YtaaphipbkpjkjaaGreatDoor
open Go.RowKit Go.Maps
set_option linter.unusedVariables false
set_option linter.unusedSimpArgs false
set_option maxRecDepth 100000
theorem run_look_none {P : Program} {t k e : TypeId} {w : World} {mb : Nat} {es : Array MapEntry} {ck : Nat} (K : Keyed P k) (ht : P.underlying t = some (.map k e)) {z : Value} (hz : (zeroValue e).run P w = .ok z w)
    (hb : w.heap[mb]? = some (.map es ck)) {key : Value} {kl : Lit} (hkey : keyOf P k key = some kl) (hes : ∀ x ∈ es.toList, ∃ l, keyOf P k x.key = some l) (hn : ∀ x ∈ es.toList, x.key ≠ key) :
    (Instr.lookup t (.map (some mb)) key true).run P w = .ok (.tuple #[z, .bool false]) w := by
  rcases K.find w hkey es.toList hes with ⟨h1, _⟩ | ⟨j, e0, _, h2, h3⟩
  · simp [Instr.lookup, run_underlying ht, MapKept.run_getObj_map hb, K.check w _ hkey, h1, hz, Result.andThen]
  · exact absurd h3 (hn e0 (List.mem_of_getElem? h2))
theorem run_look_some {P : Program} {t k e : TypeId} {w : World} {mb : Nat} {es : Array MapEntry} {ck : Nat} (K : Keyed P k) (ht : P.underlying t = some (.map k e))
    (hb : w.heap[mb]? = some (.map es ck)) {key : Value} {kl : Lit} (hkey : keyOf P k key = some kl) (hes : ∀ x ∈ es.toList, ∃ l, keyOf P k x.key = some l) (hn : ∃ x ∈ es.toList, x.key = key) :
    ∃ x ∈ es.toList, x.key = key ∧ (Instr.lookup t (.map (some mb)) key true).run P w = .ok (.tuple #[x.val, .bool true]) w := by
  rcases K.find w hkey es.toList hes with ⟨_, h2⟩ | ⟨j, e0, h1, h2, h3⟩
  · obtain ⟨x, hx, he⟩ := hn; exact absurd he (h2 x hx)
  · exact ⟨e0, List.mem_of_getElem? h2, h3, by simp [Instr.lookup, run_underlying ht, MapKept.run_getObj_map hb, K.check w _ hkey, h1, Result.andThen]⟩
theorem run_store_new {P : Program} {t k e : TypeId} {w : World} {mb : Nat} {es : Array MapEntry} {ck : Nat} (K : Keyed P k) (ht : P.underlying t = some (.map k e))
    (hb : w.heap[mb]? = some (.map es ck)) {key val : Value} {kl : Lit} (hkey : keyOf P k key = some kl) (hes : ∀ x ∈ es.toList, ∃ l, keyOf P k x.key = some l) (hn : ∀ x ∈ es.toList, x.key ≠ key) :
    (Instr.mapUpdate t (.map (some mb)) key val).run P w = .ok () (ChangeMaps.setBlock w mb (.map (es.push ⟨key, val, ck⟩) (ck + 1))) := by
  rcases K.find w hkey es.toList hes with ⟨h1, _⟩ | ⟨j, e0, _, h2, h3⟩
  · simp [Instr.mapUpdate, run_underlying ht, MapKept.run_getObj_map hb, K.check w false hkey, h1, MapKept.run_setObj_map _ hb, Result.andThen, ChangeMaps.setBlock]
  · exact absurd h3 (hn e0 (List.mem_of_getElem? h2))
abbrev TMi : TypeId := 121
/-- An instruction of which only its operation is known. -/
def bareI (op bin : Int) : In := ⟨op, bin, -1, ⟨0, 0⟩, ⟨0, 0⟩, 0, 0, 0, false, []⟩
def inV (x : In) : Value := .agg (inCells x (.slice none 0 0)).toArray
def opL1 (k : Nat) : List (ByteArray × In) := ((List.range k).filter (· ≠ 1)).map fun i => (wordTab.getD (i + 1) ⟨#[]⟩, bareI (i + 1 : Nat) 0)
def opL2 (k : Nat) : List (ByteArray × In) := (List.range k).map fun i => (opTab.getD i ⟨#[]⟩, bareI 2 (i + 1 : Nat))
def opsL : List (ByteArray × In) := opL1 14 ++ opL2 19
/-- A map of words to instructions, by its entries. -/
def MapI (w : World) (mb : Nat) (l : List (ByteArray × In)) : Prop := ∃ es ck, w.heap[mb]? = some (.map es ck) ∧ es.toList.map (fun e => (e.key, e.val)) = l.map (fun p => (Value.string p.1, inV p.2)) ∧ ∀ p ∈ l, p.1.size ≤ maxLen
theorem MapI.below {w w' : World} {mb : Nat} {l : List (ByteArray × In)} (h : MapI w mb l) (hb : Below w.heap.size w w') : MapI w' mb l := by
  obtain ⟨es, ck, h1, h2, h3⟩ := h
  exact ⟨es, ck, blk_b h1 hb, h2, h3⟩
theorem MapI.turned {w w' : World} {mb : Nat} {l : List (ByteArray × In)} {S : Nat → Prop} (h : MapI w mb l) (ht : Turned w w' S) (hS : ¬ S mb) : MapI w' mb l := by
  obtain ⟨es, ck, h1, h2, h3⟩ := h
  exact ⟨es, ck, blk_t h1 ht hS, h2, h3⟩
theorem MapI.keys {l : List (ByteArray × In)} {es : Array MapEntry} (h2 : es.toList.map (fun e => (e.key, e.val)) = l.map (fun p => (Value.string p.1, inV p.2))) (h3 : ∀ p ∈ l, p.1.size ≤ maxLen) :
    ∀ x ∈ es.toList, ∃ p ∈ l, x.key = .string p.1 ∧ x.val = inV p.2 := by
  intro x hx
  have hm : (x.key, x.val) ∈ l.map (fun p => (Value.string p.1, inV p.2)) := by rw [← h2]; exact List.mem_map.2 ⟨x, hx, rfl⟩
  obtain ⟨p, hp, e⟩ := List.mem_map.1 hm
  injection e with e1 e2
  exact ⟨p, hp, e1.symm, e2.symm⟩
theorem keyS {s : ByteArray} (hs : s.size ≤ maxLen) : keyOf Tryz.prog 9 (.string s) = some (.string s.data.toList) := Go.WideMaps.keyOf_string_mk Tryz.underlying9 hs
theorem MapI.put {w : World} {mb : Nat} {l : List (ByteArray × In)} (h : MapI w mb l) (s : ByteArray) (x : In) (hs : s.size ≤ maxLen) (hno : ∀ p ∈ l, p.1 ≠ s) :
    ∃ w', (Instr.mapUpdate TMi (.map (some mb)) (.string s) (inV x)).run Tryz.prog w = .ok () w' ∧ MapI w' mb (l ++ [(s, x)]) ∧ Turned w w' (fun k => k = mb) := by
  obtain ⟨es, ck, h1, h2, h3⟩ := h
  have hk := MapI.keys h2 h3
  refine ⟨_, run_store_new keyed_str Tryz.underlying121 h1 (keyS hs) (fun x hx => ?_) (fun x hx e => ?_), ⟨es.push ⟨.string s, inV x, ck⟩, ck + 1, ?_, ?_, ?_⟩, ?_⟩
  · obtain ⟨p, hp, e, _⟩ := hk x hx
    exact ⟨_, by rw [e]; exact keyS (h3 p hp)⟩
  · obtain ⟨p, hp, e1, _⟩ := hk x hx
    rw [e1] at e
    injection e with e
    exact hno p hp e
  · simp [ChangeMaps.setBlock, Array.getElem?_setIfInBounds, lt_of_heap h1]
  · simp [h2]
  · intro p hp
    rcases List.mem_append.1 hp with hp | hp
    · exact h3 p hp
    · simp at hp; subst hp; exact hs
  · exact ⟨rfl, rfl, rfl, by simp [ChangeMaps.setBlock], fun k _ hn => by simp only [ChangeMaps.setBlock, Array.getElem?_setIfInBounds]; rw [if_neg (fun e => hn e.symm)]⟩
theorem zeroIn (Y : World) : (zeroValue 43).run Tryz.prog Y = .ok (inV (⟨0, 0, 0, ⟨0, 0⟩, ⟨0, 0⟩, 0, 0, 0, false, []⟩ : In)) Y := by kernel_rfl
theorem MapI.none {w : World} {mb : Nat} {l : List (ByteArray × In)} (h : MapI w mb l) {s : ByteArray} (hs : s.size ≤ maxLen) (hno : ∀ p ∈ l, p.1 ≠ s) :
    (Instr.lookup TMi (.map (some mb)) (.string s) true).run Tryz.prog w = .ok (.tuple #[inV (⟨0, 0, 0, ⟨0, 0⟩, ⟨0, 0⟩, 0, 0, 0, false, []⟩ : In), .bool false]) w := by
  obtain ⟨es, ck, h1, h2, h3⟩ := h
  have hk := MapI.keys h2 h3
  refine run_look_none keyed_str Tryz.underlying121 (zeroIn w) h1 (keyS hs) (fun x hx => ?_) (fun x hx e => ?_)
  · obtain ⟨p, hp, e, _⟩ := hk x hx
    exact ⟨_, by rw [e]; exact keyS (h3 p hp)⟩
  · obtain ⟨p, hp, e1, _⟩ := hk x hx
    rw [e1] at e
    injection e with e
    exact hno p hp e
theorem MapI.some {w : World} {mb : Nat} {l : List (ByteArray × In)} (h : MapI w mb l) {s : ByteArray} {x : In} (hs : s.size ≤ maxLen) (hx : (s, x) ∈ l) (hu : ∀ y, (s, y) ∈ l → y = x) :
    (Instr.lookup TMi (.map (some mb)) (.string s) true).run Tryz.prog w = .ok (.tuple #[inV x, .bool true]) w := by
  obtain ⟨es, ck, h1, h2, h3⟩ := h
  have hk := MapI.keys h2 h3
  obtain ⟨y, hy, e1, hr⟩ := run_look_some keyed_str Tryz.underlying121 h1 (keyS hs) (fun x hx => by
    obtain ⟨p, hp, e, _⟩ := hk x hx
    exact ⟨_, by rw [e]; exact keyS (h3 p hp)⟩) (by
    have hm : (Value.string s, inV x) ∈ es.toList.map (fun e => (e.key, e.val)) := by rw [h2]; exact List.mem_map.2 ⟨(s, x), hx, rfl⟩
    obtain ⟨y, hy, e⟩ := List.mem_map.1 hm
    injection e with e1 e2
    exact ⟨y, hy, e1⟩)
  obtain ⟨p, hp, e2, e3⟩ := hk y hy
  rw [e1] at e2
  injection e2 with e2
  subst e2
  rw [hr, e3, hu p.2 hp]
theorem build1 (k : Int) (Y : World) : (Instr.build TIn #[(0, .int .i64 k), (2, .int .i64 (-1))]).run Tryz.prog Y = .ok (inV (bareI k 0)) Y := by kernel_rfl
theorem build2 (k : Int) (Y : World) : (Instr.build TIn #[(0, .int .i64 2), (1, .int .i64 k), (2, .int .i64 (-1))]).run Tryz.prog Y = .ok (inV (bareI 2 k)) Y := by kernel_rfl
theorem new1 : ∀ k < 14, ∀ p ∈ opL1 k, k ≠ 1 → p.1 ≠ wordTab.getD (k + 1) ⟨#[]⟩ := by decide +kernel
theorem new2 : ∀ k < 19, ∀ p ∈ opL1 14 ++ opL2 k, p.1 ≠ opTab.getD k ⟨#[]⟩ := by decide +kernel
theorem opL1_succ (k : Nat) : opL1 (k + 1) = opL1 k ++ (if k = 1 then [] else [(wordTab.getD (k + 1) ⟨#[]⟩, bareI (k + 1 : Nat) 0)]) := by
  unfold opL1
  rw [List.range_succ, List.filter_append, List.map_append]
  congr 1
  by_cases h : k = 1
  · subst h; rfl
  · rw [if_neg h]; simp [h]
theorem opL2_succ (k : Nat) : opL2 (k + 1) = opL2 k ++ [(opTab.getD k ⟨#[]⟩, bareI 2 (k + 1 : Nat))] := by
  unfold opL2; rw [List.range_succ, List.map_append]; rfl
section
variable {w : World}
set_option maxHeartbeats 8000000 in
theorem operations_c (hW : WordsIn w) (hN : NamesIn w) (hw0 : 0 < w.heap.size) :
    Calls Tryz.prog 71 #[] w fun e w' => ∃ mb, e = .returned (.map (some mb)) ∧ w.heap.size ≤ mb ∧ MapI w' mb opsL ∧ Below w.heap.size w w' := by
  have HW : Hid (∀ Y, Below w.heap.size w Y → WordsIn Y) := fun Y hY => hW.below hY
  have HN : Hid (∀ Y, Below w.heap.size w Y → NamesIn Y) := fun Y hY => hN.below hY
  have hmm := @run_makeMap Tryz.prog
  clear hW hN
  go_enter Tryz.func71, Tryz.ntmps71
  go_wp2
  have HM0 : Hid (MapI (w.alloc (.map #[] 0)) w.heap.size (opL1 0)) := ⟨#[], 0, heap_r0 _ _, rfl, fun p hp => by cases hp⟩
  have HB0 : Hid (Below w.heap.size w (w.alloc (.map #[] 0))) := below1 w _
  generalize w.alloc (.map #[] 0) = W1 at *
  go_loopw [2] (fun iv wr => ∃ k : Nat, iv = .int .i64 ((k : Int) + 1) ∧ k ≤ 14 ∧ Hid (MapI wr w.heap.size (opL1 k)) ∧ Hid (Below w.heap.size w wr)) (fun iv _ => 15 - (intOf iv).toNat)
  case atStart => exact ⟨0, rfl, by omega, HM0, HB0⟩
  case round =>
    obtain ⟨k, rfl, hk, HM, HB⟩ := hrel
    by_cases hlt : k < 14
    · have d1 : decide ((k : Int) + 1 ≤ 14) = true := by simp; omega
      by_cases hk1 : k = 1
      · have d2 : (((k : Int) + 1) != 2) = false := by simp [hk1]
        have HM2 : Hid (MapI wr w.heap.size (opL1 (k + 1))) := by rw [opL1_succ, if_pos hk1, List.append_nil]; exact HM
        clear hk1
        go_wp2
        exact ⟨⟨k + 1, by go_num, by omega, HM2, HB⟩, by simp [intOf]; omega⟩
      · have d2 : (((k : Int) + 1) != 2) = true := by simp; omega
        obtain ⟨s, hs⟩ : ∃ s, wordTab[k + 1]? = some s := ⟨_, List.getElem?_eq_getElem (show k + 1 < wordTab.length by show k + 1 < 15; omega)⟩
        have a0 := HW.out wr HB.out (k + 1) s hs
        have hsg : wordTab.getD (k + 1) ⟨#[]⟩ = s := by simp [List.getD, hs]
        have hss : s.size ≤ maxLen := Nat.le_trans (by have : ∀ s ∈ wordTab, s.size ≤ 100 := by decide +kernel
                                                       exact this s (List.mem_of_getElem? hs)) (by unfold maxLen; omega)
        obtain ⟨w2, hr, hM2, hT2⟩ := HM.out.put s (bareI (k + 1 : Nat) 0) hss (fun p hp => by rw [← hsg]; exact new1 k hlt p hp hk1)
        have HM2 : Hid (MapI w2 w.heap.size (opL1 (k + 1))) := by rw [opL1_succ, if_neg hk1, hsg]; exact hM2
        have HB2 : Hid (Below w.heap.size w w2) := below_turned HB.out hT2
        have e1 : (((k + 1 : Nat)) : Int) = (k : Int) + 1 := by omega
        rw [e1] at hr
        simp only [inV, bareI, inCells] at hr
        clear hk1 hs hsg hss hM2 hT2 e1
        go_wp2
        exact ⟨⟨k + 1, by go_num, by omega, HM2, HB2⟩, by simp [intOf]; omega⟩
    · have d1 : decide ((k : Int) + 1 ≤ 14) = false := by simp; omega
      have HM1 : Hid (MapI wr w.heap.size (opL1 14 ++ opL2 0)) := by
        show MapI _ _ _
        have h := HM.out
        rw [show k = 14 by omega] at h
        simpa [opL2] using h
      obtain ⟨W7, hW7⟩ : ∃ W7, W7 = wr := ⟨_, rfl⟩
      rw [← hW7] at HM1 HB ⊢
      clear hW7 HM
      go_wp2
      go_loopw [3] (fun iv wr => ∃ k : Nat, iv = .int .i64 ((k : Int) + 1) ∧ k ≤ 19 ∧ Hid (MapI wr w.heap.size (opL1 14 ++ opL2 k)) ∧ Hid (Below w.heap.size w wr)) (fun iv _ => 20 - (intOf iv).toNat)
      case atStart => exact ⟨0, rfl, by omega, HM1, HB⟩
      case round =>
        rename World => wr
        obtain ⟨k0, hk0⟩ : ∃ k0, k0 = k := ⟨_, rfl⟩
        rw [← hk0]
        clear hk0 d1 hlt hk
        obtain ⟨k, rfl, hk, HM, HB⟩ := hrel
        by_cases hlt : k < 19
        · have d1 : decide ((k : Int) + 1 ≤ 19) = true := by simp; omega
          have hsg : opName ((k : Int) + 1) = opTab.getD k ⟨#[]⟩ := by
            unfold opName
            rw [if_pos (by omega)]
            congr 1
            omega
          have hss : (opTab.getD k ⟨#[]⟩).size ≤ maxLen := Nat.le_trans (by
            have h1 : ∀ k < 19, (opTab.getD k ⟨#[]⟩).size ≤ 100 := by decide +kernel
            exact h1 k hlt) (by unfold maxLen; omega)
          obtain ⟨w2, hr, hM2, hT2⟩ := HM.out.put (opTab.getD k ⟨#[]⟩) (bareI 2 (k + 1 : Nat)) hss (new2 k hlt)
          have HM2 : Hid (MapI w2 w.heap.size (opL1 14 ++ opL2 (k + 1))) := by rw [opL2_succ, ← List.append_assoc]; exact hM2
          have HB2 : Hid (Below w.heap.size w w2) := below_turned HB.out hT2
          have cN := name_c ((k : Int) + 1) (HN.out wr HB.out)
          rw [hsg] at cN
          generalize opTab.getD k ⟨#[]⟩ = s at *
          have e1 : (((k + 1 : Nat)) : Int) = (k : Int) + 1 := by omega
          rw [e1] at hr
          simp only [inV, bareI, inCells] at hr
          clear hsg hss hM2 hT2 e1
          go_wp2_with (first | (go_at_call 99; refine cN.mono ?_; rintro e w' ⟨rfl, hw⟩; rw [hw]; clear hw w' cN) | fail)
          exact ⟨⟨k + 1, by go_num, by omega, HM2, HB2⟩, by simp [intOf]; omega⟩
        · obtain rfl : k = 19 := by omega
          have d1 : decide (((19 : Nat) : Int) + 1 ≤ 19) = false := by simp
          go_wp2
          go_ret
          exact ⟨_, rfl, Nat.le_refl _, HM.out, HB.out⟩
end
end Go.Proofs.YtaaphipbkpjkjaaGreatDoor
namespace Go.Proofs.YtaaphipbkpjkjaaGreatDoor
open Go.RowKit Go.Maps
set_option linter.unusedVariables false
set_option linter.unusedSimpArgs false
set_option maxRecDepth 100000
def I64 (n : Int) : Prop := -9223372036854775808 ≤ n ∧ n ≤ 9223372036854775807
def sB (l : List UInt8) : ByteArray := ⟨l.toArray⟩
def linS (t : List UInt8) (ls : List (List ByteArray)) : List UInt8 := ls.foldl lineS t
theorem linS_snoc (t : List UInt8) (ls : List (List ByteArray)) (x : List ByteArray) : linS t (ls ++ [x]) = lineS (linS t ls) x := by simp [linS]
theorem linS_append (t : List UInt8) (a b : List (List ByteArray)) : linS t (a ++ b) = linS (linS t a) b := by simp [linS]
theorem wT_le : ∀ (ws : List ByteArray) (i : Nat), (∀ s ∈ ws, s.size ≤ 100000) → (wT i ws).length ≤ ws.length * 100001
  | [], i, _ => by simp [wT]
  | s :: r, i, h => by
    have h1 := wT_le r (i + 1) (fun x hx => h x (List.mem_cons_of_mem _ hx))
    have h2 := h s List.mem_cons_self
    have h3 : (sepW i s).length ≤ 1 + s.size := by unfold sepW; split <;> simp <;> omega
    simp only [wT, List.length_append, List.length_cons]
    omega
theorem lineT_le {ws : List ByteArray} (h : ∀ s ∈ ws, s.size ≤ 100000) : (lineT ws).length ≤ ws.length * 100001 + 1 := by
  have := wT_le ws 0 h
  unfold lineT
  simp
  omega
theorem lineS_le {t : List UInt8} {ws : List ByteArray} (ht : t.length ≤ 10000000000000) (h : (lineT ws).length ≤ 9000000000000) : (lineS t ws).length ≤ 10000000000000 := by
  unfold lineS
  split
  · exact ht
  · rw [List.length_append]; omega
def slotW (s : Slt) : List ByteArray := [sB [115, 108, 111, 116], decS s.size, decS s.align]
def fnHeadW (f : Fn) : List ByteArray := [sB [102, 117, 110, 99], f.nm, decS f.pr, decS f.tp] ++ (if f.gv then [sB [103, 105, 118, 101, 115]] else [])
def fnLines (q : Fg) : List (List ByteArray) := [fnHeadW q.f] ++ q.sls.map slotW ++ q.code.map fun i => wordsP i.x
def relW (r : Rl) : List ByteArray := [sB [114, 101, 108, 111, 99], decS r.off, decS r.glob, decS r.add]
def hexD (n : Nat) : UInt8 := [48, 49, 50, 51, 52, 53, 54, 55, 56, 57, 97, 98, 99, 100, 101, 102].getD n 0
def hexT (l : List UInt8) : List UInt8 := l.flatMap fun b => [hexD (b.toNat / 16), hexD (b.toNat % 16)]
def obHeadW (o : Ob) : List ByteArray := [sB [111, 98, 106, 101, 99, 116], o.nm, decS o.size, decS o.align]
def dataW (bs : List UInt8) : List (List ByteArray) := if 0 < fillN bs bs.length then [[sB [100, 97, 116, 97], sB (hexT (bs.take (fillN bs bs.length)))]] else []
def obLines (q : Og) : List (List ByteArray) := [obHeadW q.o] ++ dataW q.bs ++ q.rls.map relW
def mainW (n : Int) : List ByteArray := [sB [109, 97, 105, 110], decS n]
def pgLines (x : Pg) : List (List ByteArray) := x.obs.flatMap obLines ++ x.fns.flatMap fnLines ++ [mainW x.mn]
/-- What is written of a program. -/
def printS (x : Pg) : List UInt8 := linS [] (pgLines x)
/-- A function that can be written. -/
structure FgP (q : Fg) : Prop where
  nm : q.f.nm.size ≤ 100000
  pr : I64 q.f.pr
  tp : I64 q.f.tp
  sl : ∀ s ∈ q.sls, I64 s.size ∧ I64 s.align
  ci : ∀ i ∈ q.code, InN i.x ∧ 0 ≤ i.x.op ∧ i.x.op < 15
structure OgP (q : Og) : Prop where
  nm : q.o.nm.size ≤ 100000
  sz : I64 q.o.size
  al : I64 q.o.align
  bn : q.bs.length ≤ 50000
  rl : ∀ r ∈ q.rls, I64 r.off ∧ I64 r.glob ∧ I64 r.add
theorem sB_size (l : List UInt8) : (sB l).size = l.length := by simp [sB, ByteArray.size]
theorem tgtW_size {d : Int} (h : I64 d) : (tgtW d).size ≤ 100 := by
  unfold tgtW
  split
  · show #[(45 : UInt8)].size ≤ 100; decide
  · rw [pre_size]; have := decS_size d h.1 h.2; omega
theorem opW_size {a : Ar} (h : ArOK a) : ∀ s ∈ opW a, s.size ≤ 100 := by
  have := natS_size a.n.toNat (by have := h.1; have := h.2; omega)
  intro s hs
  unfold opW at hs
  split at hs
  · simp at hs; subst hs; rw [pre_size]; omega
  · split at hs
    · simp at hs; subst hs; rw [pre_size]; omega
    · simp at hs
theorem fwW_size {x : In} (h : InN x) (c : Nat) : ∀ s ∈ fwW c x, s.size ≤ 100 := by
  intro s hs
  have dec : ∀ {n : Int}, I64 n → ∀ s ∈ [decS n], s.size ≤ 100 := fun hn s hs => by simp at hs; subst hs; have := decS_size _ hn.1 hn.2; omega
  unfold fwW at hs
  split at hs
  · simp at hs; subst hs; exact tgtW_size ⟨h.d0, h.d1⟩
  split at hs
  · exact opW_size (h.ok _ List.mem_cons_self) s hs
  split at hs
  · exact opW_size (h.ok _ (List.mem_cons_of_mem _ List.mem_cons_self)) s hs
  split at hs
  · exact dec ⟨h.n0, h.n1⟩ s hs
  split at hs
  · exact dec ⟨h.o0, h.o1⟩ s hs
  split at hs
  · exact dec ⟨h.w0, h.w1⟩ s hs
  split at hs
  · unfold opsW at hs
    obtain ⟨a, ha, hs⟩ := List.mem_flatMap.1 hs
    exact opW_size (h.ok _ (List.mem_cons_of_mem _ (List.mem_cons_of_mem _ ha))) s hs
  split at hs
  · simp at hs; subst hs; show #[(115 : UInt8), 105, 103, 110, 101, 100].size ≤ 100; decide
  · simp at hs
theorem wordTab_size : ∀ s ∈ wordTab, s.size ≤ 100 := by decide +kernel
theorem opTab_size : ∀ s ∈ opTab, s.size ≤ 100 := by decide +kernel
theorem getD_size {l : List ByteArray} (h : ∀ s ∈ l, s.size ≤ 100) (k : Nat) : (l.getD k ⟨#[]⟩).size ≤ 100 := by
  rw [List.getD]
  cases e : l[k]? with
  | none => show (0 : Nat) ≤ 100; omega
  | some s => exact h s (List.mem_of_getElem? e)
theorem headW_size (x : In) : (headW x).size ≤ 100 := by
  unfold headW
  split
  · unfold opName
    split
    · exact getD_size opTab_size _
    · show (0 : Nat) ≤ 100; omega
  · exact getD_size wordTab_size _
theorem wordsP_ok {x : In} (h : InN x) : (wordsP x).length ≤ 6000000 ∧ ∀ s ∈ wordsP x, s.size ≤ 100000 := by
  constructor
  · have h1 := fldW_len h.al (fieldTab.getD x.op.toNat [])
    have h2 : (fieldTab.getD x.op.toNat []).length ≤ 5 := by
      have : ∀ l ∈ fieldTab, l.length ≤ 5 := by decide
      rw [List.getD]
      cases e : fieldTab[x.op.toNat]? with
      | none => show (0 : Nat) ≤ 5; omega
      | some l => exact this l (List.mem_of_getElem? e)
    unfold wordsP
    rw [List.length_cons]
    have : (fieldTab.getD x.op.toNat []).length * 1000000 ≤ 5 * 1000000 := Nat.mul_le_mul_right _ h2
    omega
  · intro s hs
    unfold wordsP at hs
    rcases List.mem_cons.1 hs with rfl | hs
    · exact Nat.le_trans (headW_size x) (by omega)
    · unfold fldW at hs
      obtain ⟨c, _, hs⟩ := List.mem_flatMap.1 hs
      exact Nat.le_trans (fwW_size h c s hs) (by omega)
theorem decS_100 {n : Int} (h : I64 n) : (decS n).size ≤ 100000 := by have := decS_size n h.1 h.2; omega
theorem slotW_ok {s : Slt} (h : I64 s.size ∧ I64 s.align) : (slotW s).length ≤ 6000000 ∧ ∀ x ∈ slotW s, x.size ≤ 100000 := by
  refine ⟨by simp [slotW], fun x hx => ?_⟩
  simp only [slotW, List.mem_cons, List.not_mem_nil, or_false] at hx
  rcases hx with rfl | rfl | rfl
  · rw [sB_size]; simp
  · exact decS_100 h.1
  · exact decS_100 h.2
theorem fnHeadW_ok {q : Fg} (h : FgP q) : (fnHeadW q.f).length ≤ 6000000 ∧ ∀ x ∈ fnHeadW q.f, x.size ≤ 100000 := by
  constructor
  · unfold fnHeadW; split <;> simp
  · intro x hx
    unfold fnHeadW at hx
    simp only [List.mem_append, List.mem_cons, List.not_mem_nil, or_false] at hx
    rcases hx with (rfl | rfl | rfl | rfl) | hx
    · rw [sB_size]; simp
    · exact h.nm
    · exact decS_100 h.pr
    · exact decS_100 h.tp
    · split at hx
      · simp at hx; subst hx; rw [sB_size]; simp
      · simp at hx
theorem lineT_ok {ws : List ByteArray} (h : ws.length ≤ 6000000 ∧ ∀ s ∈ ws, s.size ≤ 100000) : (lineT ws).length ≤ 9000000000000 := by
  have := lineT_le h.2
  have : ws.length * 100001 ≤ 6000000 * 100001 := Nat.mul_le_mul_right _ h.1
  omega
theorem WrT.kp_below {B b : Nat} {t : List UInt8} {w w' : World} (h : WrT B b t w) (hb : Below w.heap.size w w') : WrT B b t w' := h.below hb
theorem strV_new (w1 : World) (ws : List ByteArray) (hn : ws ≠ []) : StrV (w1.alloc (.cells (stV ws).toArray TStr)) (some ⟨w1.heap.size, 0, none⟩) ws.length ws :=
  ⟨⟨Nat.le_refl _, fun e => by cases e⟩, fun _ => ⟨w1.heap.size, 0, _, rfl, heap_r0 _ _, fun i s hs => by simp [stV, hs]⟩⟩
end Go.Proofs.YtaaphipbkpjkjaaGreatDoor
