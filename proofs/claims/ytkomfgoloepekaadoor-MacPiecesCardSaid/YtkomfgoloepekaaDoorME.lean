/- (*Mac).Sum. -/
import Derived.Test.YtkomfgoloepekaaDoorMC
set_option linter.unusedVariables false
namespace Go.Proofs.YtkomfgoloepekaaDoor
open Go.RowKit

theorem nats_append (a b : ByteArray) : nats (a ++ b) = nats a ++ nats b := by
  unfold nats
  rw [ByteArray.data_append, Array.toList_append, List.map_append]
theorem size_str (l : List Nat) : (str l).size = l.length := by unfold str; simp [ByteArray.size]
theorem infoWithin : (Tryd.prog.info? 39).map (·.size) = some 1 := by kernel_rfl
set_option maxHeartbeats 1000000 in
set_option maxRecDepth 100000 in
theorem mmsum_any (B g h : Nat) (key l : List Nat) (w : World) (hk : Keyed w) (hm : MacAt B w g h key l) (hky : ∀ x ∈ key, x < 256) (hl : l.length ≤ 4294960000) :
    Calls Tryd.prog 13 #[.pointer (some ⟨g, 0, none⟩)] w fun e w' => e = .returned (.string (str (Mc.mac key l))) ∧ Below w.heap.size w w' := by
  have HK := Lib.hid hk
  obtain ⟨O, hO⟩ : ∃ O, O = str (Mc.outer key) := ⟨_, rfl⟩
  obtain ⟨D, hD⟩ : ∃ D, D = str (Sh.sum (Mc.inner key ++ l)) := ⟨_, rfl⟩
  have C1 : ∀ w', Below w.heap.size w w' → w'.cell? ⟨g, 1, none⟩ = some (.string O) := fun w' hb => by rw [hO]; exact (hm.below hb).out
  have C0 : ∀ w', Below w.heap.size w w' → w'.rangeAt g 0 [.pointer (some ⟨h, 0, none⟩)] := fun w' hb =>
    rangeAt_blk (hm.below hb).2.2.2.1 [] [.pointer (some ⟨h, 0, none⟩)] [.string (str (Mc.outer key))] rfl
  have HD : Hid (∀ w', Below w.heap.size w w' → Calls Tryd.prog 22 #[.agg #[.pointer (some ⟨h, 0, none⟩)]] w' fun e w2 => e = .returned (.string D) ∧ Below w.heap.size w w2) := by
    rw [hD]
    exact Lib.hid (fun w' hb => (wdigest_any h _ w' (hk.below hb) (hm.below hb).2.2.2.2 (by rw [List.length_append, Mc.inner_length]; omega)).mono fun e w2 ⟨h1, h2⟩ => ⟨h1, hb.trans (h2.mono hb.size)⟩)
  have sO : (O.size : Int) = 64 := by rw [hO, size_str, Mc.outer_length]; rfl
  have sD : (D.size : Int) = 32 := by rw [hD, size_str, Sh.sum_length]; rfl
  have HE : Hid (Sh.sum (nats (O ++ D)) = Mc.mac key l) := by
    rw [hO, hD, nats_append, nats_str _ (Mc.outer_small key hky), nats_str _ (Mc.sum_small _)]; exact Lib.hid rfl
  have HS : Hid (∀ w', Below w.heap.size w w' → Calls Tryd.prog 14 #[.string (O ++ D)] w' fun e w2 => e = .returned (.string (str (Sh.sum (nats (O ++ D))))) ∧ Below w.heap.size w w2) :=
    Lib.hid (fun w' hb => (sum_any (O ++ D) w' (hk.below hb) (by rw [ByteArray.size_append]; omega)).mono fun e w2 ⟨h1, h2⟩ => ⟨h1, hb.trans (h2.mono hb.size)⟩)
  clear hO hD hk hm
  go_enter Tryd.func13, Tryd.ntmps13
  go_wp2_with fail
  refine wp_region_quiet_tail_in (C := fun w' => Below w.heap.size w w') 10 (by kernel_rfl) (by kernel_rfl) ((Below.refl _ _).drew) ?_
  simp only [List.take_succ_cons, List.take_zero, List.drop_succ_cons, List.drop_zero]
  refine wpQuiet_by rfl (.pointer (some ⟨g, 0, none⟩)) (fun w _ => BigFrame.run_move (.tmp 0) rfl w) ?_
  simp only [Act.put, List.setIfInBounds_toArray, List.set_cons_zero, List.set_cons_succ]
  refine wpQuiet_by rfl (.pointer (some ⟨g, 0, none⟩)) (fun w _ => by simp [go_sem]) ?_
  simp only [Act.put, List.setIfInBounds_toArray, List.set_cons_zero, List.set_cons_succ]
  refine wpQuiet_by rfl (.pointer (some ⟨g, 1, none⟩)) (fun w _ => by simp [go_sem]) ?_
  simp only [Act.put, List.setIfInBounds_toArray, List.set_cons_zero, List.set_cons_succ]
  refine wpQuiet_by rfl (.string O) (fun w' hw => by simp [go_sem, C1 w' hw]) ?_
  simp only [Act.put, List.setIfInBounds_toArray, List.set_cons_zero, List.set_cons_succ]
  refine wpQuiet_by rfl (.pointer (some ⟨g, 0, none⟩)) (fun w _ => BigFrame.run_move (.tmp 0) rfl w) ?_
  simp only [Act.put, List.setIfInBounds_toArray, List.set_cons_zero, List.set_cons_succ]
  refine wpQuiet_by rfl (.pointer (some ⟨g, 0, none⟩)) (fun w _ => by simp [go_sem]) ?_
  simp only [Act.put, List.setIfInBounds_toArray, List.set_cons_zero, List.set_cons_succ]
  refine wpQuiet_by rfl (.pointer (some ⟨g, 0, none⟩)) (fun w _ => by simp [go_sem]) ?_
  simp only [Act.put, List.setIfInBounds_toArray, List.set_cons_zero, List.set_cons_succ]
  refine wpQuiet_load rfl 39 (.tmp 11) rfl g 0 rfl [.pointer (some ⟨h, 0, none⟩)] _ C0 Tryd.underlying39 rfl infoWithin ?_
  simp only [Act.put, List.setIfInBounds_toArray, List.set_cons_zero, List.set_cons_succ]
  refine wpQuiet_call rfl 22 #[.agg #[.pointer (some ⟨h, 0, none⟩)]] (.string D) (fun w _ => by simp [go_sem]) (fun w' hw => HD.out w' hw) ?_
  simp only [Act.put, List.setIfInBounds_toArray, List.set_cons_zero, List.set_cons_succ]
  refine wpQuiet_by rfl (.string (O ++ D)) (fun w _ => by simp [go_sem]; omega) ?_
  simp only [Act.put, List.setIfInBounds_toArray, List.set_cons_zero, List.set_cons_succ]
  refine wpQuiet_nil ?_
  intro w2 hb2
  go_wp2_with fail
  refine (HS.out w2 hb2).mono ?_; rintro e w3 ⟨rfl, hb3⟩
  go_wp2
  go_ret
  exact ⟨ret_str (by rw [HE.out]), hb3⟩
end Go.Proofs.YtkomfgoloepekaaDoor
