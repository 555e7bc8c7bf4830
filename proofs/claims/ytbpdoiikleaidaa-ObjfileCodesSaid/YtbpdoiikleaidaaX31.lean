/- strings.CutPrefix; what a reading behind the magic is. -/
import Derived.Test.YtbpdoiikleaidaaX30
set_option linter.unusedVariables false
set_option linter.unusedSimpArgs false
namespace Go.Proofs.Ytbpdoiikleaidaa
open Go Go.RowKit Oj Pk Of

theorem hasp_any (S P : ByteArray) (w : World) (hS : S.size ≤ 140737488355328) (hP : P.size ≤ 140737488355328) : Calls Try.prog 61 #[.string S, .string P] w fun e w' => e = .returned (.bool (decide ((by' S).take P.size = by' P))) ∧ w = w' := by
  obtain ⟨T, hT⟩ : ∃ T, T = S.extract 0 P.size := ⟨_, rfl⟩
  have hby : by' T = (by' S).take P.size := by
    rw [hT]
    conv => lhs; rw [← tx_by S]
    rw [tx_take, by_tx]
  have hst := str_eq T P
  rw [hby] at hst
  by_cases hl : P.size ≤ S.size
  · have s1 : ∀ W, (Instr.slice 9 (.string S) none (some (.int .i64 (P.size : Int))) none).run Try.prog W = .ok (.string T) W := by
      intro W
      rw [run_slice_string_to_if W 9 S .i64 (P.size : Int) (by kernel_rfl), if_pos (by omega), hT]
      rfl
    obtain ⟨b, hb⟩ : ∃ b, b = decide ((by' S).take P.size = by' P) := ⟨_, rfl⟩
    rw [← hb] at hst ⊢
    have hli : (P.size : Int) ≤ (S.size : Int) := by omega
    clear hb hby hT hl hS hP
    go_enter Try.func61, Try.ntmps61
    go_wp2_with fail
    go_ret
    exact ⟨rfl, rfl⟩
  · have hb : decide ((by' S).take P.size = by' P) = false := decide_eq_false (fun h => by
      have := congrArg List.length h
      rw [List.length_take, by_length, by_length] at this
      omega)
    rw [hb]
    have hli : (S.size : Int) < (P.size : Int) := by omega
    clear hb hby hT hl hS hP hst
    go_enter Try.func61, Try.ntmps61
    go_wp2_with fail
    go_ret
    exact ⟨rfl, rfl⟩
def cutV (S P : ByteArray) : Value := if (by' S).take P.size = by' P then .tuple #[.string (tx ((by' S).drop P.size)), .bool true] else .tuple #[.string S, .bool false]
theorem scutp_any (S P : ByteArray) (w : World) (hS : S.size ≤ 140737488355328) (hP : P.size ≤ 140737488355328) : Calls Try.prog 43 #[.string S, .string P] w fun e w' => e = .returned (cutV S P) ∧ w = w' := by
  have HH := Lib.hid (hasp_any S P w hS hP)
  unfold cutV
  by_cases hc : (by' S).take P.size = by' P
  · rw [if_pos hc]
    rw [decide_eq_true hc] at HH
    have hl : P.size ≤ S.size := by
      have := congrArg List.length hc
      rw [List.length_take, by_length, by_length] at this
      omega
    obtain ⟨T, hT⟩ : ∃ T, T = tx ((by' S).drop P.size) := ⟨_, rfl⟩
    have s2 : ∀ W, (Instr.slice 9 (.string S) (some (.int .i64 (P.size : Int))) none none).run Try.prog W = .ok (.string T) W := by
      intro W
      rw [run_slice_string_from_if W 9 S .i64 (P.size : Int) (by kernel_rfl), if_pos (by omega), hT]
      congr 2
      conv => lhs; rw [← tx_by S]
      rw [tx_drop _ _ _ (by rw [tx_size])]
      rfl
    rw [← hT]
    clear hT hc hl hS hP
    go_enter Try.func43, Try.ntmps43
    go_wp2_with fail
    refine HH.out.mono ?_; rintro e w1 ⟨rfl, rfl⟩
    clear HH
    go_wp2_with fail
    go_ret2
    exact ⟨rfl, rfl⟩
  · rw [if_neg hc]
    rw [decide_eq_false hc] at HH
    clear hc hS hP
    go_enter Try.func43, Try.ntmps43
    go_wp2_with fail
    refine HH.out.mono ?_; rintro e w1 ⟨rfl, rfl⟩
    clear HH
    go_wp2_with fail
    go_ret2
    exact ⟨rfl, rfl⟩
theorem cutp_any (S P : ByteArray) (w : World) (hS : S.size ≤ 140737488355328) (hP : P.size ≤ 140737488355328) : Calls Try.prog 24 #[.string S, .string P] w fun e w' => e = .returned (cutV S P) ∧ w = w' := by
  have HH := Lib.hid (scutp_any S P w hS hP)
  obtain ⟨T, b, hV⟩ : ∃ T b, cutV S P = .tuple #[.string T, .bool b] := by
    unfold cutV
    split
    · exact ⟨_, _, rfl⟩
    · exact ⟨_, _, rfl⟩
  rw [hV] at HH ⊢
  clear hV hS hP
  go_enter Try.func24, Try.ntmps24
  go_wp2_with fail
  refine HH.out.mono ?_; rintro e w1 ⟨rfl, rfl⟩
  clear HH
  go_wp2_with fail
  go_ret2
  exact ⟨rfl, rfl⟩
/-- Which object bytes are, read behind the magic. -/
theorem getO_cut (s : List UInt8) : getO s = if s.take 4 = magic then (if (fin (rdB ⟨s.drop 4, 0⟩).2).E = 0 ∧ obOk (rdB ⟨s.drop 4, 0⟩).1 = true then some (rdB ⟨s.drop 4, 0⟩).1 else none) else none := by
  by_cases hl : s.length < 4
  · have h1 : ¬ s.take 4 = magic := fun h => by
      have := congrArg List.length h
      rw [List.length_take] at this
      have h4 : magic.length = 4 := rfl
      omega
    rw [if_neg h1]
    have ht : take ⟨s, 0⟩ 4 = ([], ⟨s, 6⟩) := take_end (r := ⟨s, 0⟩) rfl (by decide) (by simp only; omega)
    unfold getO rdO
    rw [ht]
    rw [if_neg (fun h => by have := h.2.1; cases this)]
  · have ht : take ⟨s, 0⟩ 4 = (s.take 4, ⟨s.drop 4, 0⟩) := take_ok (r := ⟨s, 0⟩) rfl (by decide) (by simp only; omega)
    unfold getO rdO
    rw [ht]
    simp only
    by_cases hm : s.take 4 = magic
    · rw [if_pos hm]
      unfold rdB
      simp only [hm, true_and]
    · rw [if_neg hm, if_neg (fun h => hm h.2.1)]
end Go.Proofs.Ytbpdoiikleaidaa
