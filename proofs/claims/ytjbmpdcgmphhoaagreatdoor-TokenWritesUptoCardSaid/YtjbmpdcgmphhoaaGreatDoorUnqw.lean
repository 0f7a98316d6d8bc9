/-
  What package token's unquote answers.
-/
import Derived.Test.YtjbmpdcgmphhoaaGreatDoorUnq
import Derived.OwnWalk
import Derived.Maps.AppendAt
namespace Go.Proofs.YtjbmpdcgmphhoaaGreatDoor
open Go.RowKit
set_option linter.unusedVariables false

theorem info_u8 : (Tryz.prog.info? 5).map (fun i => (i.zero, i.size, i.bytes)) = some (some (.int .u8 0), 1, 1) := by kernel_rfl

theorem byteVals_append (t : List UInt8) (c : UInt8) : byteVals (t ++ [c]) = byteVals t ++ [.int .u8 c.toNat] := by simp [byteVals]

def UnqPost (B : Nat) (w : World) (R : Option (List UInt8 × Nat)) (e : Ending) (w' : World) : Prop := Below B w w' ∧
  match R with
  | none => e = .returned (.tuple #[.slice none 0 0, .int .i64 0, .bool false])
  | some (t, m) => ∃ v, e = .returned (.tuple #[v, .int .i64 (1 + m), .bool true]) ∧ w'.ownsRow B 5 1 v t.length (byteVals t)

def UnqAt (R : Option (List UInt8 × Nat)) (q : Nat) (l t : List UInt8) (k : Nat) : Prop := R.map (fun x => (x.1, 1 + x.2)) = unqFrom q l t k

theorem UnqAt.none {R : Option (List UInt8 × Nat)} {q : Nat} {l t : List UInt8} {k : Nat} (h : UnqAt R q l t k) (hu : unq q (l.drop k) = none) : R = none := by
  unfold UnqAt unqFrom at h; rw [hu] at h; cases R with | none => rfl | some x => cases h
theorem UnqAt.done {R : Option (List UInt8 × Nat)} {q : Nat} {l t : List UInt8} {k : Nat} (h : UnqAt R q l t k) (hu : unq q (l.drop k) = some ([], 1)) : R = some (t, k) := by
  unfold UnqAt unqFrom at h; rw [hu] at h
  cases R with
  | none => cases h
  | some x => simp at h; obtain ⟨x1, x2⟩ := x; simp at h ⊢; exact ⟨h.1, by omega⟩
theorem UnqAt.next {R : Option (List UInt8 × Nat)} {q : Nat} {l t : List UInt8} {k j : Nat} {c : UInt8} (h : UnqAt R q l t k) (hu : unq q (l.drop k) = (unq q (l.drop (k + j))).map fun x => (c :: x.1, j + x.2)) : UnqAt R q l (t ++ [c]) (k + j) := by
  unfold UnqAt unqFrom at h ⊢; rw [h, hu]
  cases unq q (l.drop (k + j)) with
  | none => rfl
  | some x => simp; omega

set_option maxRecDepth 100000 in
set_option maxHeartbeats 4000000 in
theorem unquote_c (s : ByteArray) (w : World) (hs : s.size ≤ 140737488355327) (h0 : 0 < s.size) :
    Calls Tryz.prog 65 #[.string s] w (UnqPost w.heap.size w (unq (s[0]).toNat (s.data.toList.drop 1))) := by
  obtain ⟨i0, hi, hz0, hz1, hz2⟩ := info_parts info_u8
  have hStart : UnqAt (unq (s[0]).toNat (s.data.toList.drop 1)) (s[0]).toNat s.data.toList [] 1 := by
    unfold UnqAt unqFrom; simp
  generalize unq (s[0]).toNat (s.data.toList.drop 1) = R at *
  generalize hB : w.heap.size = B
  have HB : Hid _ := hB
  clear hB
  have HS : Hid (UnqAt _ _ _ _ _) := hStart
  clear hStart
  go_enter Tryz.func65, Tryz.ntmps65
  go_wp2
  go_loopw [5, 6] (fun v i wr => ∃ (k : Nat) (t : List UInt8), k ≤ s.size ∧ 1 ≤ k ∧ t.length < k ∧ i = .int .i64 k ∧ Hid (wr.ownsRow B 5 1 v t.length (byteVals t)) ∧ Hid (Below B w wr) ∧ B ≤ wr.heap.size ∧ Hid (UnqAt R (s[0]).toNat s.data.toList t k)) (fun _ i _ => s.size - (intOf i).toNat)
  case atStart => exact ⟨1, [], h0, Nat.le_refl _, by simp, rfl, World.ownsRow_nil _ _ _ _, Below.refl _ _, Nat.le_of_eq HB.out.symm, HS⟩
  case round =>
    obtain ⟨k, t, hk, hk1, htk, rfl, HOWN, HBEL, hsz, HR⟩ := hrel
    clear HS
    by_cases hlt : k < s.size
    · have hd := drop_get s k hlt
      have hu := unq_cons (s[0]).toNat s[k] (s.data.toList.drop (k + 1))
      rw [← hd] at hu
      by_cases hq : (s[k]).toNat = (s[0]).toNat
      · rw [if_pos hq] at hu
        have hRR := HR.out.done hu
        subst hRR
        clear hu hd HR
        have hq' : ((s[k]).toNat : Int) = (s[0]).toNat := by omega
        go_wp2
        go_ret3
        refine ⟨HBEL.out, _, ?_, HOWN.out⟩
        show Ending.returned (.tuple #[_, .int .i64 (k + 1), .bool true]) = _
        rw [Int.add_comm]; rfl
      rw [if_neg hq] at hu
      have hq' : ¬ (((s[k]).toNat : Int) = (s[0]).toNat) := by omega
      by_cases h10 : (s[k]).toNat = 10
      · rw [if_pos h10] at hu
        have hRR := HR.out.none hu
        subst hRR
        clear hu hd HR
        have hq2 : ¬ ((10 : Int) = (s[0]).toNat) := by omega
        go_wp2
        go_ret3
        exact ⟨HBEL.out, rfl⟩
      rw [if_neg h10] at hu
      have h10' : ¬ (((s[k]).toNat : Int) = 10) := by omega
      by_cases h92 : (s[k]).toNat = 92
      · rw [if_pos h92] at hu
        have cE : ∀ W : World, Calls Tryz.prog 82 #[.string (s.extract (k + 1) s.size)] W fun e w' => e = .returned (escV (escOf (s.data.toList.drop (k + 1)))) ∧ Below W.heap.size W w' := fun W => by
          have hx : (s.extract (k + 1) s.size).data.toList = s.data.toList.drop (k + 1) := by rw [extract_list]; exact List.take_of_length_le (by simp)
          have := escape_c (s.extract (k + 1) s.size) W (by simp; omega)
          rw [hx] at this; exact this
        have hq2 : ¬ ((92 : Int) = (s[0]).toNat) := by omega
        rcases hE : escOf (s.data.toList.drop (k + 1)) with _ | ⟨b, j⟩
        · rw [hE] at hu cE
          have hRR := HR.out.none hu
          subst hRR
          clear hu hd HR hE
          simp only [escV] at cE
          go_wp2_with (go_at_call 82; refine (cE _).mono ?_; rintro e w1 ⟨rfl, hb1⟩)
          go_ret3
          exact ⟨HBEL.out.trans (hb1.mono hsz), rfl⟩
        · rw [hE] at hu cE
          have hle := escOf_le hE
          have hb8 : b.toUInt8.toNat = b := by simp; omega
          have hj : j ≤ s.size - (k + 1) := by have := hle.2; simpa using this
          simp only [List.drop_drop] at hu
          rw [show k + 1 + j = k + (1 + j) by omega] at hu
          have HR2 : Hid (UnqAt R (s[0]).toNat s.data.toList (t ++ [b.toUInt8]) (k + (1 + j))) := HR.out.next hu
          clear hu hd HR hE h10
          simp only [escV] at cE
          go_wp2_with (first | (go_at_call 82; refine (cE _).mono ?_; rintro e w1 ⟨rfl, hb1⟩; have HO1 : Hid (World.ownsRow _ _ _ _ _ _ _) := own_below HOWN.out hb1; have HB1 : Hid (Below B w w1) := HBEL.out.trans (hb1.mono hsz); have hsz1 : B ≤ w1.heap.size := Nat.le_trans hsz hb1.size; clear hb1) | (at_builtin; go_must (refine wpList_append_own _ rfl (.tmp 45) (.tmp 47) 58 rfl B 5 i0 (.int .u8 0) 1 1 Tryz.underlying58 hi hz0 hz1 hz2 rfl (by decide) _ _ _ rfl (HO1.out.alloc _) ⟨_, 0, none⟩ 1 1 [.int .u8 _] rfl rfl (cell_one_new _ _ _) ?c2 ?c3 ?c4 ?c5 ?_)))
          case c2 => intro u hu; simp at hu; subst hu; rfl
          case c3 => unfold maxLen; omega
          case c4 => omega
          case c5 => simp; omega
          intro v' w2 hown' hgrow _
          have RR : Hid (w2.ownsRow B 5 1 v' (t ++ [b.toUInt8]).length (byteVals (t ++ [b.toUInt8])) ∧ Below B w w2 ∧ B ≤ w2.heap.size) := by
            refine ⟨?_, (HB1.out.alloc hsz1 _).grown hgrow (by simp; omega) (fun j hj => (HO1.out.lt j hj).1), ?_⟩
            · rw [byteVals_append, List.length_append, hb8]; exact hown'
            · have := hgrow.size; simp at this; omega
          clear hown' hgrow HOWN HBEL hsz HO1 HB1
          go_wp2
          go_roundw
          case rel => exact ⟨k + (1 + j), t ++ [b.toUInt8], by omega, by omega, by simp; omega, by go_num, RR.out.1, RR.out.2.1, RR.out.2.2, HR2⟩
          case measure => simp [intOf]; omega
      · rw [if_neg h92] at hu
        have h92' : ¬ (((s[k]).toNat : Int) = 92) := by omega
        have HR2 : Hid (UnqAt R (s[0]).toNat s.data.toList (t ++ [s[k]]) (k + 1)) := HR.out.next hu
        clear hu hd HR h10 h92 hq
        go_wp2_with (at_builtin; go_must (refine wpList_append_own _ rfl (.tmp 45) (.tmp 47) 58 rfl B 5 i0 (.int .u8 0) 1 1 Tryz.underlying58 hi hz0 hz1 hz2 rfl (by decide) _ _ _ rfl (HOWN.out.alloc _) ⟨_, 0, none⟩ 1 1 [.int .u8 _] rfl rfl (cell_one_new _ _ _) ?c2 ?c3 ?c4 ?c5 ?_))
        case c2 => intro u hu; simp at hu; subst hu; rfl
        case c3 => unfold maxLen; omega
        case c4 => omega
        case c5 => simp; omega
        intro v' w1 hown' hgrow _
        have RR : Hid (w1.ownsRow B 5 1 v' (t ++ [s[k]]).length (byteVals (t ++ [s[k]])) ∧ Below B w w1 ∧ B ≤ w1.heap.size) := by
          refine ⟨?_, (HBEL.out.alloc hsz _).grown hgrow (by simp; omega) (fun j hj => (HOWN.out.lt j hj).1), ?_⟩
          · rw [byteVals_append, List.length_append]; exact hown'
          · have := hgrow.size; simp at this; omega
        clear hown' hgrow HOWN HBEL hsz
        go_wp2
        go_roundw
        case rel => exact ⟨k + 1, t ++ [s[k]], by omega, by omega, by simp; omega, by go_num, RR.out.1, RR.out.2.1, RR.out.2.2, HR2⟩
        case measure => simp [intOf]; omega
    · have hu : unq (s[0]).toNat (s.data.toList.drop k) = none := by
        rw [List.drop_eq_nil_of_le (by simp only [Array.length_toList]; show s.size ≤ k; omega)]; rfl
      have hRR := HR.out.none hu
      subst hRR
      clear hu HR
      go_wp2
      go_ret3
      exact ⟨HBEL.out, rfl⟩
end Go.Proofs.YtjbmpdcgmphhoaaGreatDoor
