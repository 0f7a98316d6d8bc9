/-
  At every kind the program's functions Width, Signed, Convert and Fits answer as the document's own; all leave the world as it was.
-/
import Derived.Test.YtpnpilbmhkiphaaDoorWExt
namespace Go.Proofs.YtpnpilbmhkiphaaDoor.W
open Go.RowKit
set_option linter.unusedVariables false

/-- A call answers that, and leaves the world as it was. -/
abbrev Answers (f : Nat) (args : Array Value) (v : Value) : Prop := ∀ w, Calls Tryd.prog f args w fun e w' => e = .returned v ∧ w' = w
/-- Width and Signed of both. -/
def WideSigned (k width : Int) (signed : Bool) : Prop :=
  Answers 30 #[.int .i64 k] (.int .i64 width) ∧ Answers 38 #[.int .i64 k] (.int .i64 width) ∧
  Answers 31 #[.int .i64 k] (.bool signed) ∧ Answers 66 #[.int .i64 k] (.bool signed)

set_option maxHeartbeats 400000 in
theorem wide_2 : WideSigned 2 1 false := by
  refine ⟨fun w => ?_, fun w => ?_, fun w => ?_, fun w => ?_⟩
  · go_enter Tryd.func30, Tryd.ntmps30
    go_wp2
    go_ret
    exact ⟨rfl, rfl⟩
  · go_enter Tryd.func38, Tryd.ntmps38
    go_wp2
    go_ret
    exact ⟨rfl, rfl⟩
  · go_enter Tryd.func31, Tryd.ntmps31
    go_wp2
    go_ret
    exact ⟨rfl, rfl⟩
  · go_enter Tryd.func66, Tryd.ntmps66
    go_wp2
    go_ret
    exact ⟨rfl, rfl⟩

set_option maxHeartbeats 400000 in
theorem wide_3 : WideSigned 3 1 true := by
  refine ⟨fun w => ?_, fun w => ?_, fun w => ?_, fun w => ?_⟩
  · go_enter Tryd.func30, Tryd.ntmps30
    go_wp2
    go_ret
    exact ⟨rfl, rfl⟩
  · go_enter Tryd.func38, Tryd.ntmps38
    go_wp2
    go_ret
    exact ⟨rfl, rfl⟩
  · go_enter Tryd.func31, Tryd.ntmps31
    go_wp2
    go_ret
    exact ⟨rfl, rfl⟩
  · go_enter Tryd.func66, Tryd.ntmps66
    go_wp2
    go_ret
    exact ⟨rfl, rfl⟩

set_option maxHeartbeats 400000 in
theorem wide_4 : WideSigned 4 1 true := by
  refine ⟨fun w => ?_, fun w => ?_, fun w => ?_, fun w => ?_⟩
  · go_enter Tryd.func30, Tryd.ntmps30
    go_wp2
    go_ret
    exact ⟨rfl, rfl⟩
  · go_enter Tryd.func38, Tryd.ntmps38
    go_wp2
    go_ret
    exact ⟨rfl, rfl⟩
  · go_enter Tryd.func31, Tryd.ntmps31
    go_wp2
    go_ret
    exact ⟨rfl, rfl⟩
  · go_enter Tryd.func66, Tryd.ntmps66
    go_wp2
    go_ret
    exact ⟨rfl, rfl⟩

set_option maxHeartbeats 400000 in
theorem wide_5 : WideSigned 5 1 false := by
  refine ⟨fun w => ?_, fun w => ?_, fun w => ?_, fun w => ?_⟩
  · go_enter Tryd.func30, Tryd.ntmps30
    go_wp2
    go_ret
    exact ⟨rfl, rfl⟩
  · go_enter Tryd.func38, Tryd.ntmps38
    go_wp2
    go_ret
    exact ⟨rfl, rfl⟩
  · go_enter Tryd.func31, Tryd.ntmps31
    go_wp2
    go_ret
    exact ⟨rfl, rfl⟩
  · go_enter Tryd.func66, Tryd.ntmps66
    go_wp2
    go_ret
    exact ⟨rfl, rfl⟩

set_option maxHeartbeats 400000 in
theorem wide_6 : WideSigned 6 2 true := by
  refine ⟨fun w => ?_, fun w => ?_, fun w => ?_, fun w => ?_⟩
  · go_enter Tryd.func30, Tryd.ntmps30
    go_wp2
    go_ret
    exact ⟨rfl, rfl⟩
  · go_enter Tryd.func38, Tryd.ntmps38
    go_wp2
    go_ret
    exact ⟨rfl, rfl⟩
  · go_enter Tryd.func31, Tryd.ntmps31
    go_wp2
    go_ret
    exact ⟨rfl, rfl⟩
  · go_enter Tryd.func66, Tryd.ntmps66
    go_wp2
    go_ret
    exact ⟨rfl, rfl⟩

set_option maxHeartbeats 400000 in
theorem wide_7 : WideSigned 7 2 false := by
  refine ⟨fun w => ?_, fun w => ?_, fun w => ?_, fun w => ?_⟩
  · go_enter Tryd.func30, Tryd.ntmps30
    go_wp2
    go_ret
    exact ⟨rfl, rfl⟩
  · go_enter Tryd.func38, Tryd.ntmps38
    go_wp2
    go_ret
    exact ⟨rfl, rfl⟩
  · go_enter Tryd.func31, Tryd.ntmps31
    go_wp2
    go_ret
    exact ⟨rfl, rfl⟩
  · go_enter Tryd.func66, Tryd.ntmps66
    go_wp2
    go_ret
    exact ⟨rfl, rfl⟩

set_option maxHeartbeats 400000 in
theorem wide_8 : WideSigned 8 4 true := by
  refine ⟨fun w => ?_, fun w => ?_, fun w => ?_, fun w => ?_⟩
  · go_enter Tryd.func30, Tryd.ntmps30
    go_wp2
    go_ret
    exact ⟨rfl, rfl⟩
  · go_enter Tryd.func38, Tryd.ntmps38
    go_wp2
    go_ret
    exact ⟨rfl, rfl⟩
  · go_enter Tryd.func31, Tryd.ntmps31
    go_wp2
    go_ret
    exact ⟨rfl, rfl⟩
  · go_enter Tryd.func66, Tryd.ntmps66
    go_wp2
    go_ret
    exact ⟨rfl, rfl⟩

set_option maxHeartbeats 400000 in
theorem wide_9 : WideSigned 9 4 false := by
  refine ⟨fun w => ?_, fun w => ?_, fun w => ?_, fun w => ?_⟩
  · go_enter Tryd.func30, Tryd.ntmps30
    go_wp2
    go_ret
    exact ⟨rfl, rfl⟩
  · go_enter Tryd.func38, Tryd.ntmps38
    go_wp2
    go_ret
    exact ⟨rfl, rfl⟩
  · go_enter Tryd.func31, Tryd.ntmps31
    go_wp2
    go_ret
    exact ⟨rfl, rfl⟩
  · go_enter Tryd.func66, Tryd.ntmps66
    go_wp2
    go_ret
    exact ⟨rfl, rfl⟩

set_option maxHeartbeats 400000 in
theorem wide_10 : WideSigned 10 4 true := by
  refine ⟨fun w => ?_, fun w => ?_, fun w => ?_, fun w => ?_⟩
  · go_enter Tryd.func30, Tryd.ntmps30
    go_wp2
    go_ret
    exact ⟨rfl, rfl⟩
  · go_enter Tryd.func38, Tryd.ntmps38
    go_wp2
    go_ret
    exact ⟨rfl, rfl⟩
  · go_enter Tryd.func31, Tryd.ntmps31
    go_wp2
    go_ret
    exact ⟨rfl, rfl⟩
  · go_enter Tryd.func66, Tryd.ntmps66
    go_wp2
    go_ret
    exact ⟨rfl, rfl⟩

set_option maxHeartbeats 400000 in
theorem wide_11 : WideSigned 11 4 false := by
  refine ⟨fun w => ?_, fun w => ?_, fun w => ?_, fun w => ?_⟩
  · go_enter Tryd.func30, Tryd.ntmps30
    go_wp2
    go_ret
    exact ⟨rfl, rfl⟩
  · go_enter Tryd.func38, Tryd.ntmps38
    go_wp2
    go_ret
    exact ⟨rfl, rfl⟩
  · go_enter Tryd.func31, Tryd.ntmps31
    go_wp2
    go_ret
    exact ⟨rfl, rfl⟩
  · go_enter Tryd.func66, Tryd.ntmps66
    go_wp2
    go_ret
    exact ⟨rfl, rfl⟩

set_option maxHeartbeats 400000 in
theorem wide_12 : WideSigned 12 4 true := by
  refine ⟨fun w => ?_, fun w => ?_, fun w => ?_, fun w => ?_⟩
  · go_enter Tryd.func30, Tryd.ntmps30
    go_wp2
    go_ret
    exact ⟨rfl, rfl⟩
  · go_enter Tryd.func38, Tryd.ntmps38
    go_wp2
    go_ret
    exact ⟨rfl, rfl⟩
  · go_enter Tryd.func31, Tryd.ntmps31
    go_wp2
    go_ret
    exact ⟨rfl, rfl⟩
  · go_enter Tryd.func66, Tryd.ntmps66
    go_wp2
    go_ret
    exact ⟨rfl, rfl⟩

set_option maxHeartbeats 400000 in
theorem wide_13 : WideSigned 13 4 false := by
  refine ⟨fun w => ?_, fun w => ?_, fun w => ?_, fun w => ?_⟩
  · go_enter Tryd.func30, Tryd.ntmps30
    go_wp2
    go_ret
    exact ⟨rfl, rfl⟩
  · go_enter Tryd.func38, Tryd.ntmps38
    go_wp2
    go_ret
    exact ⟨rfl, rfl⟩
  · go_enter Tryd.func31, Tryd.ntmps31
    go_wp2
    go_ret
    exact ⟨rfl, rfl⟩
  · go_enter Tryd.func66, Tryd.ntmps66
    go_wp2
    go_ret
    exact ⟨rfl, rfl⟩

set_option maxRecDepth 100000 in
set_option maxHeartbeats 1000000 in
theorem wide_no (k : Int) (h2 : (k == 2) = false) (h3 : (k == 3) = false) (h4 : (k == 4) = false) (h5 : (k == 5) = false) (h6 : (k == 6) = false) (h7 : (k == 7) = false) (h8 : (k == 8) = false) (h9 : (k == 9) = false) (h10 : (k == 10) = false) (h11 : (k == 11) = false) (h12 : (k == 12) = false) (h13 : (k == 13) = false) : WideSigned k 0 false := by
  refine ⟨fun w => ?_, fun w => ?_, fun w => ?_, fun w => ?_⟩
  · go_enter Tryd.func30, Tryd.ntmps30
    go_wp2
    go_ret
    exact ⟨rfl, rfl⟩
  · go_enter Tryd.func38, Tryd.ntmps38
    go_wp2
    go_ret
    exact ⟨rfl, rfl⟩
  · go_enter Tryd.func31, Tryd.ntmps31
    go_wp2
    go_ret
    exact ⟨rfl, rfl⟩
  · go_enter Tryd.func66, Tryd.ntmps66
    go_wp2
    go_ret
    exact ⟨rfl, rfl⟩

/-- Convert of both, where the kind is not the truth's: by extend and extended. -/
theorem convert_by (k width v x : Int) (s : Bool) (hk : (k == 2) = false) (hw : WideSigned k width s)
    (he : Answers 29 #[.int .u32 v, .int .i64 width, .bool s] (.int .u32 x)) (hr : Answers 65 #[.int .u32 v, .int .i64 width, .bool s] (.int .u32 x)) :
    Answers 9 #[.int .i64 k, .int .u32 v] (.int .u32 x) ∧ Answers 36 #[.int .i64 k, .int .u32 v] (.int .u32 x) := by
  obtain ⟨a0, b0, c0, d0⟩ := hw
  have A : Hid _ := a0; have B : Hid _ := b0; have C : Hid _ := c0; have D : Hid _ := d0; have E : Hid _ := he; have F : Hid _ := hr
  clear a0 b0 c0 d0 he hr
  refine ⟨fun w => ?_, fun w => ?_⟩
  · go_enter Tryd.func9, Tryd.ntmps9
    go_wp2_with fail
    refine (A.out _).mono ?_; rintro e w' ⟨rfl, rfl⟩
    go_wp2_with fail
    refine (C.out _).mono ?_; rintro e w' ⟨rfl, rfl⟩
    go_wp2_with fail
    refine (E.out _).mono ?_; rintro e w' ⟨rfl, rfl⟩
    go_wp2_with fail
    go_ret
    exact ⟨rfl, rfl⟩
  · go_enter Tryd.func36, Tryd.ntmps36
    go_wp2_with fail
    refine (B.out _).mono ?_; rintro e w' ⟨rfl, rfl⟩
    go_wp2_with fail
    refine (D.out _).mono ?_; rintro e w' ⟨rfl, rfl⟩
    go_wp2_with fail
    refine (F.out _).mono ?_; rintro e w' ⟨rfl, rfl⟩
    go_wp2_with fail
    go_ret
    exact ⟨rfl, rfl⟩
theorem convert_bool (v : Int) (v0 : 0 ≤ v) (v1 : v < 4294967296) :
    Answers 9 #[.int .i64 2, .int .u32 v] (.int .u32 (if v = 0 then 0 else 1)) ∧ Answers 36 #[.int .i64 2, .int .u32 v] (.int .u32 (if v = 0 then 0 else 1)) := by
  by_cases h : v = 0
  · rw [if_pos h]
    subst h
    refine ⟨fun w => ?_, fun w => ?_⟩
    · go_enter Tryd.func9, Tryd.ntmps9
      go_wp2
      go_ret
      exact ⟨rfl, rfl⟩
    · go_enter Tryd.func36, Tryd.ntmps36
      go_wp2
      go_ret
      exact ⟨rfl, rfl⟩
  · rw [if_neg h]
    have h1 : (v == 0) = false := by simpa using h
    have h2 : (v != 0) = true := by simpa using h
    refine ⟨fun w => ?_, fun w => ?_⟩
    · go_enter Tryd.func9, Tryd.ntmps9
      go_wp2
      go_ret
      exact ⟨rfl, rfl⟩
    · go_enter Tryd.func36, Tryd.ntmps36
      go_wp2
      go_ret
      exact ⟨rfl, rfl⟩

/-- What Convert of a kind answers: by its width and its sign. -/
def conv (k v : Int) : Int :=
  if k = 2 then (if v = 0 then 0 else 1) else if k = 3 ∨ k = 4 then low8 v else if k = 5 then v % 256 else if k = 6 then low16 v else if k = 7 then v % 65536 else v
theorem no_kind (k j : Int) (h : k < 2 ∨ 13 < k) (j1 : 2 ≤ j) (j2 : j ≤ 13) : (k == j) = false := by
  simp; omega
/-- The width and the sign of every kind. -/
def widthOf (k : Int) : Int := if 2 ≤ k ∧ k ≤ 5 then 1 else if 6 ≤ k ∧ k ≤ 7 then 2 else if 8 ≤ k ∧ k ≤ 13 then 4 else 0
def signOf (k : Int) : Bool := decide (k = 3 ∨ k = 4 ∨ k = 6 ∨ k = 8 ∨ k = 10 ∨ k = 12)
theorem wide_any (k : Int) : WideSigned k (widthOf k) (signOf k) := by
  by_cases h : k < 2 ∨ 13 < k
  · have e1 : widthOf k = 0 := by unfold widthOf; rw [if_neg (by omega), if_neg (by omega), if_neg (by omega)]
    have e2 : signOf k = false := by unfold signOf; simp; omega
    rw [e1, e2]
    exact wide_no k (no_kind k 2 h (by decide) (by decide)) (no_kind k 3 h (by decide) (by decide)) (no_kind k 4 h (by decide) (by decide)) (no_kind k 5 h (by decide) (by decide)) (no_kind k 6 h (by decide) (by decide)) (no_kind k 7 h (by decide) (by decide)) (no_kind k 8 h (by decide) (by decide)) (no_kind k 9 h (by decide) (by decide)) (no_kind k 10 h (by decide) (by decide)) (no_kind k 11 h (by decide) (by decide)) (no_kind k 12 h (by decide) (by decide)) (no_kind k 13 h (by decide) (by decide))
  · have hk : k = 2 ∨ k = 3 ∨ k = 4 ∨ k = 5 ∨ k = 6 ∨ k = 7 ∨ k = 8 ∨ k = 9 ∨ k = 10 ∨ k = 11 ∨ k = 12 ∨ k = 13 := by omega
    rcases hk with rfl | rfl | rfl | rfl | rfl | rfl | rfl | rfl | rfl | rfl | rfl | rfl
    · exact wide_2
    · exact wide_3
    · exact wide_4
    · exact wide_5
    · exact wide_6
    · exact wide_7
    · exact wide_8
    · exact wide_9
    · exact wide_10
    · exact wide_11
    · exact wide_12
    · exact wide_13
theorem convert_any (k v : Int) (v0 : 0 ≤ v) (v1 : v < 4294967296) :
    Answers 9 #[.int .i64 k, .int .u32 v] (.int .u32 (conv k v)) ∧ Answers 36 #[.int .i64 k, .int .u32 v] (.int .u32 (conv k v)) := by
  by_cases h2 : k = 2
  · subst h2; exact convert_bool v v0 v1
  have hk : (k == 2) = false := by simpa using h2
  by_cases h3 : k = 3 ∨ k = 4
  · have e : conv k v = low8 v := by unfold conv; rw [if_neg h2, if_pos h3]
    rw [e]
    rcases h3 with rfl | rfl
    · exact convert_by 3 1 v _ true hk wide_3 (fun w => extend_1s v w v0 v1) (fun w => extended_1s v w v0 v1)
    · exact convert_by 4 1 v _ true hk wide_4 (fun w => extend_1s v w v0 v1) (fun w => extended_1s v w v0 v1)
  by_cases h5 : k = 5
  · subst h5; exact convert_by 5 1 v _ false hk wide_5 (fun w => extend_1u v w v0 v1) (fun w => extended_1u v w v0 v1)
  by_cases h6 : k = 6
  · subst h6; exact convert_by 6 2 v _ true hk wide_6 (fun w => extend_2s v w v0 v1) (fun w => extended_2s v w v0 v1)
  by_cases h7 : k = 7
  · subst h7; exact convert_by 7 2 v _ false hk wide_7 (fun w => extend_2u v w v0 v1) (fun w => extended_2u v w v0 v1)
  have e : conv k v = v := by unfold conv; rw [if_neg h2, if_neg h3, if_neg h5, if_neg h6, if_neg h7]
  rw [e]
  have hw : (widthOf k == 1) = false ∧ (widthOf k == 2) = false := by
    unfold widthOf
    rw [if_neg (by omega), if_neg (by omega)]
    by_cases h8 : 8 ≤ k ∧ k ≤ 13
    · rw [if_pos h8]; decide
    · rw [if_neg h8]; decide
  exact convert_by k (widthOf k) v v (signOf k) hk (wide_any k) (fun w => extend_all v _ _ w hw.1 hw.2) (fun w => extended_all v _ _ w hw.1 hw.2)
end Go.Proofs.YtpnpilbmhkiphaaDoor.W
