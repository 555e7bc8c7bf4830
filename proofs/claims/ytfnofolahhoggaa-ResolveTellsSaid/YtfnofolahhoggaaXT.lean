/- ResolveTells, walked. (written by mk_xt.py) -/
import Derived.Test.YtfnofolahhoggaaXB
import Derived.Test.YtfnofolahhoggaaXC
import Derived.Test.YtfnofolahhoggaaGL
import Derived.Test.YtfnofolahhoggaaRE
import Derived.Test.YtfnofolahhoggaaVR
import Derived.Test.YtfnofolahhoggaaVS
import Derived.Test.YtfnofolahhoggaaVW
import Derived.Test.YtfnofolahhoggaaVY
set_option linter.unusedVariables false
set_option linter.unusedSimpArgs false
namespace Go.Proofs.Ytfnofolahhoggaa
open Go Go.RowKit Go.Maps Oj Rv

set_option maxHeartbeats 16000000 in
set_option maxRecDepth 100000 in
theorem tells_any (l : List Ob) (v : Value) (fr x y : Int) (nm : ByteArray) (hf : obsFit l) (ht : nm.size ≤ 140737488355328) (w : World) (hA : ObsAt w v l) :
    Calls Try.prog 3 #[v, .int .i64 fr, .string nm, .agg #[.int .i64 x, .int .i64 y]] w fun e w' => e = .returned (.bool true) ∧ Below w.heap.size w w' := by
  have HLg := Lib.hid (fun W (hq : Below w.heap.size w W) => large_any v l hf W (hA.below hq))
  have HCp := Lib.hid (fun W (hq : Below w.heap.size w W) => rcopyAll_any v l hf W (hA.below hq))
  have HAL := Lib.hid (fun W (hq : Below w.heap.size w W) => (hA.below hq : ObsAt W v l))
  have HF := Lib.hid hf
  have HT := Lib.hid ht
  obtain ⟨a, c, rfl, h2⟩ := hA.one
  obtain ⟨n, hn⟩ : ∃ n, n = l.length := ⟨_, rfl⟩
  have hni : (n : Int) ≤ 3518437208884 := by have := hf.1; omega
  have hti : (nm.size : Int) ≤ 140737488355328 := by omega
  rw [← hn] at HLg HCp HAL h2 ⊢
  have HN := Lib.hid hn
  have H2 := Lib.hid h2
  have HB := Lib.hid (below_new1 w (.cells #[.int .i64 x, .int .i64 y] 24))
  have HP7 := Lib.hid (Blk.new w 24 [.int .i64 x, .int .i64 y])
  unfold LargePost at HLg
  clear hn h2 hf hA ht
  go_enter Try.func3, Try.ntmps3
  go_wp2_with fail
  refine (HLg.out _ HB.out).mono ?_; rintro e w1 ⟨bl, rfl, -, q⟩
  have HB' := Lib.hid (below_call HB.out q)
  have HP7' := Lib.hid (HP7.out.call q)
  clear HB HP7 q HLg
  have HB := Lib.hid HB'.out
  have HP7 := Lib.hid HP7'.out
  clear HB' HP7'
  have HALIVE : ∀ (W : World), Below w.heap.size w W → Calls Try.prog 7 #[] W (fun e w' => e = .returned (.bool true) ∧ Below w.heap.size w w') := fun W hW => (valive_any W).mono (fun e w' h => ⟨h.1, below_call hW h.2⟩)
  have HAv := Lib.hid HALIVE
  clear HALIVE
  cases bl with
  | true =>
    go_wp2_with fail
    refine (HAv.out _ HB.out).mono ?_; rintro e w2 ⟨rfl, q⟩
    have HQ := Lib.hid q
    clear q
    go_wp2_with fail
    go_ret
    exact ⟨rfl, HQ.out⟩
  | false =>
  by_cases h1024 : 1024 < nm.size
  · have hb : (1024 : Int) < (nm.size : Int) := by omega
    go_wp2_with fail
    refine (HAv.out _ HB.out).mono ?_; rintro e w2 ⟨rfl, q⟩
    have HQ := Lib.hid q
    clear q
    go_wp2_with fail
    go_ret
    exact ⟨rfl, HQ.out⟩
  have hb : (nm.size : Int) ≤ 1024 := by omega
  clear h1024
  go_wp2_with fail
  refine (HCp.out _ HB.out).mono ?_; rintro e w2 ⟨vo, S, R, N, rfl, hC, q⟩
  have HO : Hid (ObsAt w2 vo l) := Lib.hid (by
    have h := hC
    rw [HN.out] at h
    exact h.obs)
  have HB' := Lib.hid (below_call HB.out q)
  have HP7' := Lib.hid (HP7.out.call q)
  clear HB HP7 q HCp hC hb
  have HB := Lib.hid HB'.out
  have HP7 := Lib.hid HP7'.out
  clear HB' HP7'
  obtain ⟨ao, co, hvo⟩ : ∃ ao co, vo = .slice ao n co := by
    obtain ⟨ao, co, h, _⟩ := HO.out.one
    rw [← HN.out] at h
    exact ⟨ao, co, h⟩
  subst hvo
  obtain ⟨CN, hCN⟩ : ∃ CN, CN = tx (checkL l).1 := ⟨_, rfl⟩
  obtain ⟨E, hE⟩ : ∃ E, E = (checkL l).2 := ⟨_, rfl⟩
  obtain ⟨X, Y, Z, hPl, -⟩ : ∃ (X Y : Int) (Z : Int), (plV (some (fndL l fr (by' nm)).1) = .agg #[.int .i64 X, .int .i64 Y] ∧ (fndL l fr (by' nm)).2 = Z) ∧ True := ⟨_, _, _, ⟨rfl, rfl⟩, trivial⟩
  obtain ⟨RL, hRL⟩ : ∃ RL, RL = refsL l x y := ⟨_, rfl⟩
  obtain ⟨RN, hRN⟩ : ∃ RN, RN = tx RL.2.1 := ⟨_, rfl⟩
  obtain ⟨RE, hRE⟩ : ∃ RE, RE = RL.2.2 := ⟨_, rfl⟩
  obtain ⟨WL, hWL⟩ : ∃ WL, WL = winsL l := ⟨_, rfl⟩
  obtain ⟨WE, hWE⟩ : ∃ WE, WE = WL.2 := ⟨_, rfl⟩
  have HRLen : Hid (RL.1.length ≤ 1048576) := Lib.hid (by rw [hRL]; exact refs_len l x y)
  have HWLen : Hid (WL.1.length ≤ 1048576) := Lib.hid (by rw [hWL]; exact wins_len l)
  have C1 := Lib.hid (fun (v : Value) W (hq : ObsAt W v l) => vcheck_any l v HF.out W hq)
  have C2 := Lib.hid (fun (v : Value) W (hq : ObsAt W v l) => dCheck_any l v HF.out W hq)
  have C3 := Lib.hid (fun (v : Value) W (hq : ObsAt W v l) => vFind_any l v fr nm HF.out HT.out W hq)
  have C4 := Lib.hid (fun (v : Value) W (hq : ObsAt W v l) => dFind_any l v fr nm HF.out W hq)
  have C5 := Lib.hid (fun (v : Value) W (hq : ObsAt W v l) => vRefs_any l v x y HF.out W hq)
  have C6 := Lib.hid (fun (v : Value) W (hq : ObsAt W v l) => dRefs_any l v x y HF.out W hq)
  have C7 := Lib.hid (fun (v : Value) W (hq : ObsAt W v l) => vWinners_any l v HF.out W hq)
  have C8 := Lib.hid (fun (v : Value) W (hq : ObsAt W v l) => dWinners_any l v HF.out W hq)
  rw [← hCN, ← hE] at C1 C2
  rw [hPl.1, hPl.2] at C3 C4
  unfold RfPost at C5 C6
  unfold WnPost at C7 C8
  rw [← hRL, ← hRN, ← hRE] at C5 C6
  rw [← hWL, ← hWE] at C7 C8
  clear hCN hE hPl hRL hRN hRE hWL hWE HT
  go_wp2_with fail
  refine (C1.out (.slice ao n co) _ HO.out).mono ?_; rintro e w3 ⟨rfl, q⟩
  have HB' := Lib.hid (below_call HB.out q)
  have HP7' := Lib.hid (HP7.out.call q)
  have HO' := Lib.hid (HO.out.below q)
  clear HB HP7 HO
  have HB := Lib.hid HB'.out
  have HP7 := Lib.hid HP7'.out
  have HO := Lib.hid HO'.out
  clear HB' HP7' HO'
  clear q C1
  go_wp2_with fail
  refine (C2.out (.slice a n c) _ (HAL.out _ HB.out)).mono ?_; rintro e w3 ⟨rfl, q⟩
  have HB' := Lib.hid (below_call HB.out q)
  have HP7' := Lib.hid (HP7.out.call q)
  have HO' := Lib.hid (HO.out.below q)
  clear HB HP7 HO
  have HB := Lib.hid HB'.out
  have HP7 := Lib.hid HP7'.out
  have HO := Lib.hid HO'.out
  clear HB' HP7' HO'
  clear q C2
  go_wp2_with fail
  refine (C3.out (.slice ao n co) _ HO.out).mono ?_; rintro e w3 ⟨rfl, q⟩
  have qn := below_box q (.cells #[.int .i64 X, .int .i64 Y] 24)
  have HP140 := Lib.hid (Blk.new w3 24 [.int .i64 X, .int .i64 Y])
  go_upto_region 7 with (fail)
  refine wp_nameA ?_; intro w4 hw
  rw [← hw] at qn HP140
  have HB' := Lib.hid (below_call HB.out qn)
  have HP7' := Lib.hid (HP7.out.call qn)
  have HO' := Lib.hid (HO.out.below qn)
  clear HB HP7 HO
  have HB := Lib.hid HB'.out
  have HP7 := Lib.hid HP7'.out
  have HO := Lib.hid HO'.out
  clear HB' HP7' HO'
  clear q qn hw C3
  have HP14 := Lib.hid HP140.out
  clear HP140
  go_wp2_with fail
  refine (C4.out (.slice a n c) _ (HAL.out _ HB.out)).mono ?_; rintro e w3 ⟨rfl, q⟩
  have qn := below_box q (.cells #[.int .i64 X, .int .i64 Y] 24)
  have HP160 := Lib.hid (Blk.new w3 24 [.int .i64 X, .int .i64 Y])
  go_upto_region 8 with (fail)
  refine wp_nameA ?_; intro w4 hw
  rw [← hw] at qn HP160
  have HB' := Lib.hid (below_call HB.out qn)
  have HP7' := Lib.hid (HP7.out.call qn)
  have HO' := Lib.hid (HO.out.below qn)
  have HP14' := Lib.hid (HP14.out.call qn)
  clear HB HP7 HO HP14
  have HB := Lib.hid HB'.out
  have HP7 := Lib.hid HP7'.out
  have HO := Lib.hid HO'.out
  have HP14 := Lib.hid HP14'.out
  clear HB' HP7' HO' HP14'
  clear q qn hw C4
  have HP16 := Lib.hid HP160.out
  clear HP160
  obtain ⟨e0, e1, -, -, hl14⟩ := HP14.out.st2
  obtain ⟨f0, f1, -, -, hl16⟩ := HP16.out.st2
  obtain ⟨g0, g1, -, -, hl7⟩ := HP7.out.st2
  go_wp2_with fail
  clear e0 e1 f0 f1 g0 g1 hl14 hl16 hl7 HP14 HP16
  refine (C5.out (.slice ao n co) _ HO.out).mono ?_; rintro e w3 ⟨vC, rfl, hr, q⟩
  have HC := Lib.hid hr.at
  have HB' := Lib.hid (below_call HB.out q)
  have HP7' := Lib.hid (HP7.out.call q)
  have HO' := Lib.hid (HO.out.below q)
  clear HB HP7 HO
  have HB := Lib.hid HB'.out
  have HP7 := Lib.hid HP7'.out
  have HO := Lib.hid HO'.out
  clear HB' HP7' HO'
  clear q hr C5
  obtain ⟨aC, cC, hvC⟩ : ∃ a c, vC = .slice a RL.1.length c := by
    obtain ⟨a9, c9, h9, _⟩ := HC.out
    exact ⟨a9, c9, h9⟩
  subst hvC
  obtain ⟨g0, g1, -, -, hl7⟩ := HP7.out.st2
  go_wp2_with fail
  clear g0 g1 hl7
  refine (C6.out (.slice a n c) _ (HAL.out _ HB.out)).mono ?_; rintro e w3 ⟨vD, rfl, hr, q⟩
  have HD := Lib.hid hr.at
  have HB' := Lib.hid (below_call HB.out q)
  have HP7' := Lib.hid (HP7.out.call q)
  have HO' := Lib.hid (HO.out.below q)
  have HC' := Lib.hid (HC.out.below q)
  clear HB HP7 HO HC
  have HB := Lib.hid HB'.out
  have HP7 := Lib.hid HP7'.out
  have HO := Lib.hid HO'.out
  have HC := Lib.hid HC'.out
  clear HB' HP7' HO' HC'
  clear q hr C6
  obtain ⟨aD, cD, hvD⟩ : ∃ a c, vD = .slice a RL.1.length c := by
    obtain ⟨a9, c9, h9, _⟩ := HD.out
    exact ⟨a9, c9, h9⟩
  subst hvD
  go_wp2_with fail
  refine (C7.out (.slice ao n co) _ HO.out).mono ?_; rintro e w3 ⟨vU, rfl, hr, q⟩
  have HU := Lib.hid hr.at
  have HB' := Lib.hid (below_call HB.out q)
  have HP7' := Lib.hid (HP7.out.call q)
  have HO' := Lib.hid (HO.out.below q)
  have HC' := Lib.hid (HC.out.below q)
  have HD' := Lib.hid (HD.out.below q)
  clear HB HP7 HO HC HD
  have HB := Lib.hid HB'.out
  have HP7 := Lib.hid HP7'.out
  have HO := Lib.hid HO'.out
  have HC := Lib.hid HC'.out
  have HD := Lib.hid HD'.out
  clear HB' HP7' HO' HC' HD'
  clear q hr C7
  obtain ⟨aU, cU, hvU⟩ : ∃ a c, vU = .slice a WL.1.length c := by
    obtain ⟨a9, c9, h9, _⟩ := HU.out
    exact ⟨a9, c9, h9⟩
  subst hvU
  go_wp2_with fail
  refine (C8.out (.slice a n c) _ (HAL.out _ HB.out)).mono ?_; rintro e w3 ⟨vV, rfl, hr, q⟩
  have HV := Lib.hid hr.at
  have HB' := Lib.hid (below_call HB.out q)
  have HP7' := Lib.hid (HP7.out.call q)
  have HO' := Lib.hid (HO.out.below q)
  have HC' := Lib.hid (HC.out.below q)
  have HD' := Lib.hid (HD.out.below q)
  have HU' := Lib.hid (HU.out.below q)
  clear HB HP7 HO HC HD HU
  have HB := Lib.hid HB'.out
  have HP7 := Lib.hid HP7'.out
  have HO := Lib.hid HO'.out
  have HC := Lib.hid HC'.out
  have HD := Lib.hid HD'.out
  have HU := Lib.hid HU'.out
  clear HB' HP7' HO' HC' HD' HU'
  clear q hr C8
  obtain ⟨aV, cV, hvV⟩ : ∃ a c, vV = .slice a WL.1.length c := by
    obtain ⟨a9, c9, h9, _⟩ := HV.out
    exact ⟨a9, c9, h9⟩
  subst hvV
  clear HP7
  have HS0 := Lib.hid HO.out
  go_wp2_with fail
  go_loopw [28] (fun i wr => ∃ k : Nat, (k : Int) ≤ n ∧ i = .int .i64 k ∧ Hid (Below w.heap.size w wr) ∧ Hid (ObsAt wr (.slice ao n co) l) ∧ Hid (PlsAt wr (.slice aC RL.1.length cC) RL.1) ∧ Hid (PlsAt wr (.slice aD RL.1.length cD) RL.1) ∧ Hid (PlsAt wr (.slice aU WL.1.length cU) WL.1) ∧ Hid (PlsAt wr (.slice aV WL.1.length cV) WL.1)) (fun i _ => n - (intOf i).toNat)
  case atStart => exact ⟨0, by omega, rfl, HB, HO, HC, HD, HU, HV⟩
  case round =>
    clear HS0 HB HO HC HD HU HV
    obtain ⟨k, hk, rfl, HB, HO, HC, HD, HU, HV⟩ := hrel
    by_cases hlt : k < n
    · have hd : decide (k < n) = true := decide_eq_true hlt
      obtain ⟨gb, o, rfl, hbl, hcl⟩ := H2.out (by omega)
      obtain ⟨vk, c0, c1, hS⟩ := hcl k hlt
      obtain ⟨a', c', he, h3⟩ := HO.out.one
      simp only [Value.slice.injEq] at he
      obtain ⟨rfl, -, rfl⟩ := he
      obtain ⟨gb2, o2, rfl, hbl2, hcl2⟩ := h3 (by rw [← HN.out]; omega)
      obtain ⟨vk2, d0, d1, hS2⟩ := hcl2 k (by rw [← HN.out]; exact hlt)
      have hbr : gb < wr.heap.size := Nat.lt_of_lt_of_le hbl HB.out.size
      have y0 := (HB.out.cell (p := ⟨gb, o + k * 2, none⟩) hbl).trans c0
      have y1 := (HB.out.cell (p := ⟨gb, o + k * 2 + 1, none⟩) hbl).trans c1
      have hS1 := hS.below HB.out
      have HSm := Lib.hid (fun W (hq : Below wr.heap.size wr W) => robsame_any (l.getD k Ob.nought) (HF.out.2 k (by rw [← HN.out]; exact hlt)) (.agg #[.string (tx (l.getD k Ob.nought).name), vk2]) (.agg #[.string (tx (l.getD k Ob.nought).name), vk]) W ⟨vk2, rfl, hS2.below hq⟩ ⟨vk, rfl, hS1.below hq⟩)
      obtain ⟨M, hM⟩ : ∃ M, M = tx (l.getD k Ob.nought).name := ⟨_, rfl⟩
      rw [← hM] at HSm y0 d0
      have HSq : Hid (∀ W', Below wr.heap.size wr W' → Calls Try.prog 17 #[.agg #[.string M, vk2], .agg #[.string M, vk]] W' fun e w' => e = .returned (.bool true) ∧ Below wr.heap.size wr w') := Lib.hid (fun W' hW => (HSm.out W' hW).mono (fun e w' ⟨h1, h2⟩ => ⟨h1, below_call hW h2⟩))
      have HCl : Hid (∀ W', Below wr.heap.size wr W' → (W'.cell? ⟨gb, o + k * 2, none⟩ = some (.string M) ∧ W'.cell? ⟨gb, o + k * 2 + 1, none⟩ = some vk) ∧ (W'.cell? ⟨gb2, o2 + k * 2, none⟩ = some (.string M) ∧ W'.cell? ⟨gb2, o2 + k * 2 + 1, none⟩ = some vk2)) := Lib.hid (fun W' hW => ⟨⟨(hW.cell (p := ⟨gb, o + k * 2, none⟩) hbr).trans y0, (hW.cell (p := ⟨gb, o + k * 2 + 1, none⟩) hbr).trans y1⟩, ⟨(hW.cell (p := ⟨gb2, o2 + k * 2, none⟩) hbl2).trans d0, (hW.cell (p := ⟨gb2, o2 + k * 2 + 1, none⟩) hbl2).trans d1⟩⟩)
      clear hcl hcl2 h3 hS hS1 hS2 c0 c1 d0 d1 y0 y1 hM HSm
      go_upto_region 17 with (fail)
      refine qy_region (C := fun W' => Below wr.heap.size wr W') (by kernel_rfl) (by kernel_rfl) (Below.refl _ _).drew ?_
      refine qy_by rfl (.slice (some ⟨gb2, o2, none⟩) n co) (fun W' hW => by simp [go_sem]) ?_
      simp only [Act.put, List.setIfInBounds_toArray, List.set_cons_zero, List.set_cons_succ]
      refine qy_by rfl (.int .i64 (k : Int)) (fun W' hW => by simp [go_sem]) ?_
      simp only [Act.put, List.setIfInBounds_toArray, List.set_cons_zero, List.set_cons_succ]
      refine qy_by rfl (.pointer (some ⟨gb2, o2 + k * 2, none⟩)) (fun W' hW => by simp [go_sem, hlt]) ?_
      simp only [Act.put, List.setIfInBounds_toArray, List.set_cons_zero, List.set_cons_succ]
      refine qy_by rfl (.agg #[.string M, vk2]) (fun W' hW => by obtain ⟨⟨t0, t1⟩, t2, t3⟩ := HCl.out W' hW; go_simp) ?_
      simp only [Act.put, List.setIfInBounds_toArray, List.set_cons_zero, List.set_cons_succ]
      refine qy_by rfl (.slice (some ⟨gb, o, none⟩) n c) (fun W' hW => by simp [go_sem]) ?_
      simp only [Act.put, List.setIfInBounds_toArray, List.set_cons_zero, List.set_cons_succ]
      refine qy_by rfl (.int .i64 (k : Int)) (fun W' hW => by simp [go_sem]) ?_
      simp only [Act.put, List.setIfInBounds_toArray, List.set_cons_zero, List.set_cons_succ]
      refine qy_by rfl (.pointer (some ⟨gb, o + k * 2, none⟩)) (fun W' hW => by simp [go_sem, hlt]) ?_
      simp only [Act.put, List.setIfInBounds_toArray, List.set_cons_zero, List.set_cons_succ]
      refine qy_by rfl (.agg #[.string M, vk]) (fun W' hW => by obtain ⟨⟨t0, t1⟩, t2, t3⟩ := HCl.out W' hW; go_simp) ?_
      simp only [Act.put, List.setIfInBounds_toArray, List.set_cons_zero, List.set_cons_succ]
      refine qy_call rfl 17 #[.agg #[.string M, vk2], .agg #[.string M, vk]] (.bool true) (fun W' _ => by simp [go_sem]) (fun W' hW => HSq.out W' hW) ?_
      simp only [Act.put, List.setIfInBounds_toArray, List.set_cons_zero, List.set_cons_succ]
      refine qy_by rfl (.bool false) (fun W' hW => by simp [go_sem]) ?_
      simp only [Act.put, List.setIfInBounds_toArray, List.set_cons_zero, List.set_cons_succ]
      refine wpQuiet_nil ?_
      intro w6 q6
      have HB6 := Lib.hid (below_call HB.out q6)
      have HO6 := Lib.hid (HO.out.below q6)
      have HC6 := Lib.hid (HC.out.below q6)
      have HD6 := Lib.hid (HD.out.below q6)
      have HU6 := Lib.hid (HU.out.below q6)
      have HV6 := Lib.hid (HV.out.below q6)
      clear q6 HSq HCl hbr hbl hbl2
      go_wp2_with fail
      go_roundw
      case rel => exact ⟨k + 1, by omega, by go_num, HB6, HO6, HC6, HD6, HU6, HV6⟩
      case measure => simp [intOf]; omega
    · obtain rfl : k = n := by omega
      have hd : decide (k < k) = false := decide_eq_false (by omega)
      clear hlt
      go_wp2_with fail
      refine (dSame_any RL.1 _ _ HRLen.out _ HC.out HD.out).mono ?_; rintro e w6 ⟨rfl, q⟩
      have HB6 := Lib.hid (below_call HB.out q)
      have HU6 := Lib.hid (HU.out.below q)
      have HV6 := Lib.hid (HV.out.below q)
      clear q HB HU HV HC HD HO
      go_wp2_with fail
      refine (dSame_any WL.1 _ _ HWLen.out _ HU6.out HV6.out).mono ?_; rintro e w7 ⟨rfl, q⟩
      have HB7 := Lib.hid (below_call HB6.out q)
      clear q HB6 HU6 HV6
      go_wp2_with fail
      refine (HAv.out _ HB7.out).mono ?_; rintro e w8 ⟨rfl, q⟩
      have HQ := Lib.hid q
      clear q
      go_wp2_with fail
      go_ret
      exact ⟨rfl, HQ.out⟩
end Go.Proofs.Ytfnofolahhoggaa
