/- mac.New, mac.Sum, mac.Check. -/
import Derived.Test.YtkomfgoloepekaaDoorME
import Derived.Deep.RegionWith
set_option linter.unusedVariables false
namespace Go.Proofs.YtkomfgoloepekaaDoor
open Go.RowKit

theorem allNats_one (s : ByteArray) : allNats [s] = nats s := by simp [allNats]
set_option maxHeartbeats 1000000 in
set_option maxRecDepth 100000 in
theorem mnew_any (s : ByteArray) (w : World) (hk : Keyed w) (hs : s.size ≤ 4294967296) :
    Calls Tryd.prog 11 #[.string s] w fun e w' => ∃ g h, e = .returned (.pointer (some ⟨g, 0, none⟩)) ∧ MacAt w.heap.size w' g h (nats s) [] ∧ Below w.heap.size w w' ∧ Keyed w' := by
  have HK := Lib.hid hk
  have HS := Lib.hid hs
  obtain ⟨B, hB⟩ : ∃ B, B = w.heap.size := ⟨_, rfl⟩
  have HB := Lib.hid hB
  rw [← hB]
  clear hk hs hB
  go_enter Tryd.func11, Tryd.ntmps11
  go_wp2_with fail
  refine (new_any _).mono ?_; rintro e w1 ⟨h, rfl, hh, ho, hb⟩
  have HK1 := Lib.hid (HK.out.below hb)
  have HP := Lib.hid (padded_any s 92 (by decide) w1 HK1.out HS.out)
  rw [← HB.out] at hh hb
  have HH := Lib.hid hh
  have HO := Lib.hid ho
  clear ho hh
  go_wp2_with fail
  refine HP.out.mono ?_; rintro e w2 ⟨rfl, hb2⟩
  have HB2 := Lib.hid (hb.trans (hb2.mono (by have := hb.size; have := HB.out; omega)))
  have HO2 := Lib.hid (HO.out.below hb2 HO.out.lt)
  have HK2 := Lib.hid (HK1.out.below hb2)
  have HOU : Hid (str (Mc.withc 92 (Mc.block (nats s))) = str (Mc.outer (nats s))) := Lib.hid rfl
  rw [HOU.out]
  clear hb2 HO HP HK1 hb
  go_wp2_with fail
  obtain ⟨I, hI⟩ : ∃ I, I = str (Mc.inner (nats s)) := ⟨_, rfl⟩
  have hIn : nats I = Mc.inner (nats s) := by rw [hI]; exact nats_str _ (Mc.inner_small _ (nats_small s))
  have hIl : (nats I).length = 64 := by rw [hIn]; exact Mc.inner_length _
  obtain ⟨G, hG⟩ : ∃ G, G = w2.heap.size := ⟨_, rfl⟩
  obtain ⟨wB, hwB⟩ : ∃ wB, wB = w2.alloc (.cells #[.pointer (some ⟨h, 0, none⟩), .string (str (Mc.outer (nats s)))] 41) := ⟨_, rfl⟩
  have hM : Blk wB G 41 [.pointer (some ⟨h, 0, none⟩), .string (str (Mc.outer (nats s)))] := by rw [hwB, hG]; exact Blk.new w2 _ _
  have hb3 : Below w2.heap.size w2 wB := by rw [hwB]; exact (Below.refl _ _).alloc (Nat.le_refl _) _
  have hlt := HO2.out.lt
  have hBs : B ≤ w2.heap.size := by have := HB2.out.size; have := HB.out; omega
  have hbB : Below B w wB := HB2.out.trans (hb3.mono hBs)
  have hkB := HK2.out.below hb3
  have hoB := HO2.out.below hb3 hlt
  have hcr : 0 < B := by rw [HB.out]; exact HK.out.1
  have hBB : B ≤ wB.heap.size := Nat.le_trans hBs hb3.size
  have HP : Hid (∀ w', Below wB.heap.size wB w' → Calls Tryd.prog 21 #[.string s, .int .u8 54] w' fun e w3 => e = .returned (.string I) ∧ Below wB.heap.size wB w3) := by
    rw [hI]
    exact Lib.hid (fun w' hb => (padded_any s 54 (by decide) w' (hkB.below hb) HS.out).mono fun e w3 ⟨h1, h2⟩ => ⟨h1, hb.trans (h2.mono hb.size)⟩)
  have HC : Hid (∀ w', Below wB.heap.size wB w' → w'.cell? ⟨G, 0, none⟩ = some (.pointer (some ⟨h, 0, none⟩)) ∧ (w'.alloc (.cells #[.string I] 9)).cell? ⟨G, 0, none⟩ = some (.pointer (some ⟨h, 0, none⟩))) := by
    refine Lib.hid (fun w' hb => ?_)
    have h1 := hM.below hb hM.lt
    refine ⟨by rw [h1.cell]; rfl, ?_⟩
    rw [(h1.alloc _).cell]; rfl
  have HW : Hid (∀ w', Below wB.heap.size wB w' → Calls Tryd.prog 19 #[.agg #[.pointer (some ⟨h, 0, none⟩)], .slice (some ⟨w'.heap.size, 0, none⟩) 1 1] (w'.alloc (.cells #[.string I] 9)) fun e w3 => e = .returned (.int .i64 0) ∧ MacAt B w3 G h (nats s) [] ∧ Below B w w3 ∧ Keyed w3) := by
    refine Lib.hid (fun w' hb => ?_)
    have hbs := hb.size
    have hb4 : Below wB.heap.size wB (w'.alloc (.cells #[.string I] 9)) := hb.alloc hb.size _
    have hlB := hoB.lt
    have hlM := hM.lt
    refine (wwrite_any h _ [I] [] _ (hkB.below hb4) (by have := HH.out; omega) (hoB.below hb4 hoB.lt) (Texts.one w' h I (by omega) 1) (by rw [allNats_one]; simp [hIl]) (by simp)).mono fun e w3 ⟨h1, h2, h3⟩ => ?_
    refine ⟨h1, ⟨by omega, HH.out, by omega, ?_, ?_⟩, ?_, ?_⟩
    · exact (hM.below hb4 hM.lt).grown h3 (fun e => by injection e; omega)
    · rw [allNats_one, hIn, List.nil_append] at h2
      rw [List.append_nil]
      exact h2
    · exact Below.ofGrown (hbB.trans (hb4.mono hBB)) h3 HH.out (Nat.le_trans hBB hb4.size)
    · exact (hkB.below hb4).grown h3 (by have := HH.out; omega)
  have gx := (HC.out wB (Below.refl _ _)).1
  rw [← hwB, ← hG]
  clear hM hb3 hlt hBs hbB hkB hoB hcr hBB hI hIn hIl hwB hG HK2 HO2 HB2 HS HK HOU HH HB
  go_region_with (first
    | (go_at_call 21; refine (HP.out _ ?_).mono ?_; first | exact Below.refl _ _ | exact (Below.refl _ _).drew; rintro e w3 ⟨rfl, hb3⟩; have gx3 := (HC.out _ hb3).1; have gx4 := (HC.out _ hb3).2)
    | (go_at_call 19; refine (HW.out _ ?_).mono ?_; assumption; rintro e w4 ⟨rfl, hm4, hb4, hk4⟩))
  all_goals
    go_wp2
    go_ret
    exact ⟨_, _, rfl, hm4, hb4, hk4⟩
end Go.Proofs.YtkomfgoloepekaaDoor
