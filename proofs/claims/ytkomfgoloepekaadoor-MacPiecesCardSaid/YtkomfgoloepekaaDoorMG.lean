/- mac.Sum, mac.Check. -/
import Derived.Test.YtkomfgoloepekaaDoorMF
set_option linter.unusedVariables false
namespace Go.Proofs.YtkomfgoloepekaaDoor
open Go.RowKit

set_option maxHeartbeats 1000000 in
set_option maxRecDepth 100000 in
theorem macsum_any (s t : ByteArray) (w : World) (hk : Keyed w) (hs : s.size ≤ 4294967296) (ht : t.size ≤ 4294960000) :
    Calls Tryd.prog 9 #[.string s, .string t] w fun e w' => e = .returned (.string (str (Mc.mac (nats s) (nats t)))) ∧ Below w.heap.size w w' := by
  have HK := Lib.hid hk
  have HT := Lib.hid ht
  have HN := Lib.hid (mnew_any s w hk hs)
  obtain ⟨B, hB⟩ : ∃ B, B = w.heap.size := ⟨_, rfl⟩
  have HB := Lib.hid hB
  have HE : Hid (([] : List Nat) ++ allNats [t] = nats t) := by rw [allNats_one]; exact Lib.hid rfl
  have HTl : Hid ((nats t).length = t.size) := Lib.hid (nats_length t)
  rw [← hB] at HN ⊢
  clear hk hs hB ht
  go_enter Tryd.func9, Tryd.ntmps9
  go_wp2_with fail
  refine HN.out.mono ?_; rintro e w1 ⟨g, h, rfl, hm, hb, hk1⟩
  have g0 := hm.ptr
  have hlt := hm.hlt
  have hcr : 0 < B := by rw [HB.out]; exact HK.out.1
  have hBs : B ≤ w1.heap.size := by have := hb.size; have := HB.out; omega
  have hb2 : Below w1.heap.size w1 (w1.alloc (.cells #[.string t] 9)) := (Below.refl _ _).alloc (Nat.le_refl _) _
  have HW : Hid (Calls Tryd.prog 19 #[.agg #[.pointer (some ⟨h, 0, none⟩)], .slice (some ⟨w1.heap.size, 0, none⟩) 1 1] (w1.alloc (.cells #[.string t] 9)) fun e w3 => e = .returned (.int .i64 0) ∧ MacAt B w3 g h (nats s) (nats t) ∧ Below B w w3 ∧ Keyed w3) := by
    have hm2 := hm.below hb2
    obtain ⟨m1, m2, m3, m4, m5⟩ := hm2
    refine Lib.hid ((wwrite_any h _ [t] (Mc.inner (nats s) ++ []) _ (hk1.below hb2) (by omega) m5 (Texts.one w1 h t hlt 1) (by rw [allNats_one, List.append_nil, Mc.inner_length, HTl.out]; have := HT.out; omega) (by simp)).mono fun e w3 ⟨h1, h2, h3⟩ => ⟨h1, ⟨m1, m2, m3, m4.grown h3 (fun e => by injection e; omega), ?_⟩, ?_, (hk1.below hb2).grown h3 (by omega)⟩)
    · rw [List.append_nil, allNats_one] at h2; exact h2
    · exact Below.ofGrown (hb.trans (hb2.mono hBs)) h3 m2 (Nat.le_trans hBs hb2.size)
  clear hm hlt hcr hBs hb2 hk1 hb HN
  go_wp2_with fail
  refine HW.out.mono ?_; rintro e w3 ⟨rfl, hm3, hb3, hk3⟩
  have HS := Lib.hid (mmsum_any B g h (nats s) (nats t) w3 hk3 hm3 (nats_small s) (by rw [HTl.out]; exact HT.out))
  have hBs3 : B ≤ w3.heap.size := by have := hb3.size; have := HB.out; omega
  clear hm3 hk3 HW
  go_wp2_with fail
  refine HS.out.mono ?_; rintro e w4 ⟨rfl, hb4⟩
  go_wp2
  go_ret
  exact ⟨rfl, hb3.trans (hb4.mono hBs3)⟩

theorem list_eq (a b : ByteArray) (h : a = b) : (a.toList == b.toList) = true := by rw [h]; simp
theorem list_ne (a b : ByteArray) (h : a ≠ b) : (a.toList == b.toList) = false := by
  rw [beq_eq_false_iff_ne]
  intro e
  rw [ByteArray.toList_eq, ByteArray.toList_eq] at e
  exact h (ByteArray.ext (Array.toList_inj.mp e))
set_option maxHeartbeats 1000000 in
theorem maccheck_any (s t u : ByteArray) (w : World) (hk : Keyed w) (hs : s.size ≤ 4294967296) (ht : t.size ≤ 4294960000) :
    Calls Tryd.prog 10 #[.string s, .string t, .string u] w fun e w' => e = .returned (.bool ((str (Mc.mac (nats s) (nats t))).toList == u.toList)) ∧ Below w.heap.size w w' := by
  have HN := Lib.hid (macsum_any s t w hk hs ht)
  generalize str (Mc.mac (nats s) (nats t)) = M at *
  clear hk hs ht
  go_enter Tryd.func10, Tryd.ntmps10
  go_wp2_with fail
  refine HN.out.mono ?_; rintro e w1 ⟨rfl, hb⟩
  go_wp2
  go_ret
  exact ⟨rfl, hb⟩
theorem maccheck_yes (s t u : ByteArray) (hu : u = str (Mc.mac (nats s) (nats t))) (w : World) (hk : Keyed w) (hs : s.size ≤ 4294967296) (ht : t.size ≤ 4294960000) :
    Calls Tryd.prog 10 #[.string s, .string t, .string u] w fun e w' => e = .returned (.bool true) ∧ Below w.heap.size w w' := by
  have h := maccheck_any s t u w hk hs ht
  rw [list_eq _ _ hu.symm] at h
  exact h
theorem maccheck_no (s t u : ByteArray) (hu : str (Mc.mac (nats s) (nats t)) ≠ u) (w : World) (hk : Keyed w) (hs : s.size ≤ 4294967296) (ht : t.size ≤ 4294960000) :
    Calls Tryd.prog 10 #[.string s, .string t, .string u] w fun e w' => e = .returned (.bool false) ∧ Below w.heap.size w w' := by
  have h := maccheck_any s t u w hk hs ht
  rw [list_ne _ _ hu] at h
  exact h
end Go.Proofs.YtkomfgoloepekaaDoor
