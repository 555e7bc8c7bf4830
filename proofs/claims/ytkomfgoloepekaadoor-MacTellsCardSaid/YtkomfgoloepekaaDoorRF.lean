/- aediculeref02.block: one block of 64 bytes, with its words given. -/
import Derived.Test.YtkomfgoloepekaaDoorRE
import Derived.StillTailTactics
set_option linter.unusedVariables false
namespace Go.Proofs.YtkomfgoloepekaaDoor.Rf
open Go.RowKit

/-- What a round reads. -/
def Has (gv gk gw t a b c d e f g h k x : Nat) (w : World) : Prop :=
  w.cell? ⟨gv, 0, none⟩ = some (.int .u32 (a : Int)) ∧ w.cell? ⟨gv, 1, none⟩ = some (.int .u32 (b : Int)) ∧ w.cell? ⟨gv, 2, none⟩ = some (.int .u32 (c : Int)) ∧ w.cell? ⟨gv, 3, none⟩ = some (.int .u32 (d : Int)) ∧
  w.cell? ⟨gv, 4, none⟩ = some (.int .u32 (e : Int)) ∧ w.cell? ⟨gv, 5, none⟩ = some (.int .u32 (f : Int)) ∧ w.cell? ⟨gv, 6, none⟩ = some (.int .u32 (g : Int)) ∧ w.cell? ⟨gv, 7, none⟩ = some (.int .u32 (h : Int)) ∧
  w.cell? ⟨gk, t, none⟩ = some (.int .u32 (k : Int)) ∧ w.cell? ⟨gw, t, none⟩ = some (.int .u32 (x : Int))
theorem has_drewN {gv gk gw t a b c d e f g h k x : Nat} {w : World} (H : Has gv gk gw t a b c d e f g h k x w) (n : Nat) : Has gv gk gw t a b c d e f g h k x (w.drewN n) := H

theorem turn_q (x n : Int) (hx : 0 ≤ x) (hx2 : x < 4294967296) (hn : 0 ≤ n) (hn2 : n ≤ 32) (w : World) :
    Calls Tryd.prog 36 #[.int .u32 x, .int .u64 n] w fun e w' => e = .returned (.int .u32 (rotr x.toNat n.toNat : Nat)) ∧ w' = w :=
  (turn_walk x n hx hx2 hn hn2 w).mono fun _ _ ⟨h1, h2⟩ => ⟨h1, h2.symm⟩

theorem turn_h (x : Nat) (n : Int) (HX : Hid (x < 4294967296)) (hn : 0 ≤ n) (hn2 : n ≤ 32) (w : World) :
    Calls Tryd.prog 36 #[.int .u32 (x : Int), .int .u64 n] w fun e w' => e = .returned (.int .u32 (rotr x n.toNat : Nat)) ∧ w' = w := by
  have h := turn_q (x : Int) n (by omega) (by have := HX.out; omega) hn hn2 w
  rw [Int.toNat_natCast] at h
  exact h

theorem xor_eq (a b : Nat) (ha : a < 4294967296) (hb : b < 4294967296) : bits .xor .u32 (a : Int) (b : Int) = ((a ^^^ b : Nat) : Int) := u32_xor_nat a b ha hb
theorem xor_lt (a b : Nat) (ha : a < 4294967296) (hb : b < 4294967296) : a ^^^ b < 4294967296 := Nat.xor_lt_two_pow (n := 32) ha hb
theorem s1_eq (e : Nat) (he : e < 4294967296) : bits .xor .u32 (bits .xor .u32 (rotr e 6 : Nat) (rotr e 11 : Nat)) (rotr e 25 : Nat) = (Sh.S1 e : Nat) := by
  rw [xor_eq _ _ (rotr_lt e 6 he) (rotr_lt e 11 he), xor_eq _ _ (xor_lt _ _ (rotr_lt e 6 he) (rotr_lt e 11 he)) (rotr_lt e 25 he)]; rfl

theorem s0_eq (a : Nat) (ha : a < 4294967296) : bits .xor .u32 (bits .xor .u32 (rotr a 2 : Nat) (rotr a 13 : Nat)) (rotr a 22 : Nat) = (Sh.S0 a : Nat) := by
  rw [xor_eq _ _ (rotr_lt a 2 ha) (rotr_lt a 13 ha), xor_eq _ _ (xor_lt _ _ (rotr_lt a 2 ha) (rotr_lt a 13 ha)) (rotr_lt a 22 ha)]; rfl
theorem and_lt' (a b : Nat) (hb : b < 4294967296) : a &&& b < 4294967296 := Nat.and_lt_two_pow a (n := 32) hb
theorem not_lit : (if IntKind.u32.signed = true then (-1 : Int) else IntKind.u32.max) = 4294967295 := by decide
theorem ch_eq (e f g : Nat) (he : e < 4294967296) (hf : f < 4294967296) (hg : g < 4294967296) :
    bits .xor .u32 (bits .and .u32 (e : Int) (f : Int)) (bits .and .u32 (bits .xor .u32 4294967295 (e : Int)) (g : Int)) = (Sh.ch e f g : Nat) := by
  have h0 : (4294967295 : Int) = ((4294967295 : Nat) : Int) := rfl
  rw [h0, xor_eq _ _ (by omega) he, u32_and_nat _ _ he hf, u32_and_nat _ _ (xor_lt _ _ (by omega) he) hg, xor_eq _ _ (and_lt' _ _ hf) (and_lt' _ _ hg)]; rfl
theorem maj_eq (a b c : Nat) (ha : a < 4294967296) (hb : b < 4294967296) (hc : c < 4294967296) :
    bits .xor .u32 (bits .xor .u32 (bits .and .u32 (a : Int) (b : Int)) (bits .and .u32 (a : Int) (c : Int))) (bits .and .u32 (b : Int) (c : Int)) = (Sh.maj a b c : Nat) := by
  rw [u32_and_nat _ _ ha hb, u32_and_nat _ _ ha hc, u32_and_nat _ _ hb hc, xor_eq _ _ (and_lt' _ _ hb) (and_lt' _ _ hc), xor_eq _ _ (xor_lt _ _ (and_lt' _ _ hb) (and_lt' _ _ hc)) (and_lt' _ _ hc)]; rfl
theorem t1_eq (h s c k x : Nat) : (((h : Int) + (s : Int) + (c : Int) + (k : Int)) % 4294967296 + (x : Int)) % 4294967296 = (((h + s + c + k + x) % 4294967296 : Nat) : Int) := by omega

theorem eight_of (l : List Nat) (h : l.length = 8) : ∃ a b c d e f g i, l = [a, b, c, d, e, f, g, i] := by
  match l, h with
  | [a, b, c, d, e, f, g, i], _ => exact ⟨a, b, c, d, e, f, g, i, rfl⟩
theorem getD_of (l : List Nat) (j : Nat) (h : j < l.length) : l.getD j 0 = l[j] := by simp [List.getD, List.getElem?_eq_getElem h]
theorem new_eight {B : Nat} (a b c d e f g h : Nat) (w : World) (hB : B ≤ w.heap.size) : OwnU B [a, b, c, d, e, f, g, h] (.slice (some ⟨w.heap.size, 0, none⟩) 8 8)
    (w.alloc (.cells #[.int .u32 (a : Int), .int .u32 (b : Int), .int .u32 (c : Int), .int .u32 (d : Int), .int .u32 (e : Int), .int .u32 (f : Int), .int .u32 (g : Int), .int .u32 (h : Int)] 48)) :=
  ⟨by simp [u32s], Or.inr ⟨w.heap.size, 8, #[.int .u32 (a : Int), .int .u32 (b : Int), .int .u32 (c : Int), .int .u32 (d : Int), .int .u32 (e : Int), .int .u32 (f : Int), .int .u32 (g : Int), .int .u32 (h : Int)], rfl, hB, heap_alloc_new w _, by simp, by unfold maxLen; omega, rfl, rfl⟩⟩

theorem u32w (v : Nat) : IntKind.u32.wrap (v : Int) = ((v % 4294967296 : Nat) : Int) := by rw [IntKind.wrap_u32']; omega

set_option maxHeartbeats 4000000 in
set_option maxRecDepth 100000 in
theorem block_any (W K H0 : List Nat) (gh gk ch ck : Nat) (vb : Value) (w : World)
    (hW : Calls Tryd.prog 35 #[vb] w fun e w' => ∃ v, e = .returned v ∧ OwnU w.heap.size W v w' ∧ Below w.heap.size w w')
    (lW : W.length = 64) (lK : K.length = 64) (lH : H0.length = 8) (sW : Small W) (sK : Small K) (sH : Small H0)
    (oH : OwnU 0 H0 (.slice (some ⟨gh, 0, none⟩) H0.length ch) w) (oK : OwnU 0 K (.slice (some ⟨gk, 0, none⟩) K.length ck) w) :
    Calls Tryd.prog 27 #[.slice (some ⟨gh, 0, none⟩) 8 ch, .slice (some ⟨gk, 0, none⟩) 64 ck, vb] w fun e w' => ∃ v, e = .returned v ∧ OwnU w.heap.size (Sh.blockL K W H0) v w' ∧ Below w.heap.size w w' := by
  obtain ⟨i0, hi, hz0, hz1, hz2⟩ := info_parts infoU
  have HW := Lib.hid hW
  have HLW := Lib.hid lW
  have HLK := Lib.hid lK
  have HLH := Lib.hid lH
  have HSW := Lib.hid sW
  have HSK := Lib.hid sK
  have HSH := Lib.hid sH
  have HOH := Lib.hid oH
  have HOK := Lib.hid oK
  clear hW lW lK lH sW sK sH oH oK
  go_enter Tryd.func27, Tryd.ntmps27
  go_wp2_with fail
  refine HW.out.mono ?_
  rintro e w1 ⟨v, rfl, q1, q2⟩
  obtain ⟨gw, cw, hv, hgw⟩ := ownU_row q1 (by intro e; have := HLW.out; rw [e] at this; simp at this)
  subst hv
  rw [HLW.out]
  have HOW := Lib.hid q1
  have HB := Lib.hid q2
  have hsz := q2.size
  have HOH1 := Lib.hid (ownU_below HOH.out q2)
  have HOK1 := Lib.hid (ownU_below HOK.out q2)
  have hlH : (u32s H0).length = 8 * 1 := by rw [u32s_length, HLH.out]
  have hnews : ∀ j u, (u32s H0)[j]? = some u → w1.cell? ((⟨gh, 0, none⟩ : Addr).add j) = some u := World.ownsRow.cells HOH1.out rfl
  have hone : ∀ u ∈ u32s H0, u.oneCell' = true := by
    intro u hu
    simp only [u32s, List.mem_map] at hu
    obtain ⟨x, _, rfl⟩ := hu
    rfl
  have HlH := Lib.hid hlH
  have Hnews := Lib.hid hnews
  have Hone := Lib.hid hone
  have K3 : Hid (0 + 8 ≤ maxLen) := Lib.hid (by unfold maxLen; omega)
  have K4 : Hid ((0 + 8) * 4 ≤ 140737488355328) := Lib.hid (by omega)
  clear q1 q2 hlH hnews hone
  go_wp2_with (at_builtin; refine wpList_append_own _ rfl _ _ 44 rfl w1.heap.size 48 i0 (.int .u32 0) 1 4 Tryd.underlying44 hi hz0 hz1 hz2 rfl (by decide) (.slice none 0 0) 0 [] rfl (World.ownsRow_nil _ _ _ _) ⟨gh, 0, none⟩ 8 ch (u32s H0) rfl HlH.out Hnews.out Hone.out K3.out K4.out (Nat.le_refl _) ?_; intro z w2 hown hgrow hzn)
  have HZ : Hid (OwnU w1.heap.size H0 z w2) := by unfold OwnU; rw [HLH.out]; exact Lib.hid hown
  have hb2 : Below w1.heap.size w1 w2 := (Below.refl _ _).grown hgrow (Nat.le_refl _) (fun k hk => by simp [Value.ownBlock] at hk)
  clear hown hgrow hzn
  obtain ⟨gv0, cv0, hz0', hgv0⟩ := ownU_row HZ.out (by intro e; have := HLH.out; rw [e] at this; simp at this)
  subst hz0'
  go_wp2_with fail
  go_loopw [8, 9] (fun t8 t9 wr => ∃ (t gv cv a b c d e f g h : Nat), t ≤ 64 ∧ t9 = .int .i64 t ∧ t8 = .slice (some ⟨gv, 0, none⟩) 8 cv ∧ Hid (OwnU w1.heap.size [a, b, c, d, e, f, g, h] (.slice (some ⟨gv, 0, none⟩) 8 cv) wr) ∧
      Hid (Small [a, b, c, d, e, f, g, h]) ∧ Hid (Sh.rounds K W H0 t = [a, b, c, d, e, f, g, h]) ∧ Below w1.heap.size w1 wr) (fun _ t9 _ => (64 - intOf t9).toNat)
  case atStart =>
    obtain ⟨a, b, c, d, e, f, g, h, hl⟩ := eight_of H0 HLH.out
    refine ⟨0, gv0, cv0, a, b, c, d, e, f, g, h, by omega, rfl, ?_, ?_, ?_, ?_, hb2⟩
    · rw [HLH.out]
    · have h1 := HZ.out
      rw [HLH.out, hl] at h1
      exact Lib.hid h1
    · rw [← hl]; exact HSH
    · rw [← hl]; exact Lib.hid rfl
  case round =>
    obtain ⟨t, gv, cv, a, b, c, d, e, f, g, h, ht, rfl, rfl, HV, HS, HRd, hbel⟩ := hrel
    by_cases hlt : t < 64
    · obtain ⟨k, hk⟩ : ∃ k, K[t]'(by have := HLK.out; omega) = k := ⟨_, rfl⟩
      obtain ⟨x, hx⟩ : ∃ x, W[t]'(by have := HLW.out; omega) = x := ⟨_, rfl⟩
      have HC : Hid (Has gv gk gw t a b c d e f g h k x wr) := by
        refine Lib.hid ⟨ownU_cell HV.out 0 (by simp), ownU_cell HV.out 1 (by simp), ownU_cell HV.out 2 (by simp), ownU_cell HV.out 3 (by simp), ownU_cell HV.out 4 (by simp), ownU_cell HV.out 5 (by simp), ownU_cell HV.out 6 (by simp), ownU_cell HV.out 7 (by simp), ?_, ?_⟩
        · rw [hbel.cell (p := ⟨gk, t, none⟩) (ownU_lt HOK1.out), ← hk]; exact ownU_cell HOK1.out t _
        · rw [hbel.cell (p := ⟨gw, t, none⟩) (ownU_lt HOW.out), ← hx]; exact ownU_cell HOW.out t _
      have HKx := Lib.hid (And.intro hk hx)
      clear hk hx
      have EA : Hid (a < 4294967296) := Lib.hid (HS.out a (by simp))
      have EE : Hid (e < 4294967296) := Lib.hid (HS.out e (by simp))
      have EB : Hid (b < 4294967296) := Lib.hid (HS.out b (by simp))
      have EC : Hid (c < 4294967296) := Lib.hid (HS.out c (by simp))
      have EF : Hid (f < 4294967296) := Lib.hid (HS.out f (by simp))
      have EG : Hid (g < 4294967296) := Lib.hid (HS.out g (by simp))
      go_wp2_with fail
      obtain ⟨k0, k1, k2, k3, k4, k5, k6, k7, k8, k9⟩ := HC.out
      go_quiet ((go_at_call 36; exact Calls.quiet_of_same (turn_h _ _ EE (by decide) (by decide) _)))
      obtain ⟨wa, hwa⟩ : ∃ wa, wa = wr.drewN nq := ⟨_, rfl⟩
      have HCa : Hid (Has gv gk gw t a b c d e f g h k x wa) := by rw [hwa]; exact HC
      have hba : Below w1.heap.size w1 wa := by rw [hwa]; exact ⟨hbel.os, hbel.tape, hbel.output, hbel.size, hbel.block⟩
      have E1 := Lib.hid (s1_eq e EE.out)
      obtain ⟨s1, hs1⟩ : ∃ s1, Sh.S1 e = s1 := ⟨_, rfl⟩
      rw [hs1] at E1
      have HS1 := Lib.hid hs1
      rw [← hwa]
      rw [E1.out]
      clear k0 k1 k2 k3 k4 k5 k6 k7 k8 k9 HC hwa hbel hs1 E1 nq
      -- ch
      go_wp2_with fail
      obtain ⟨k0, k1, k2, k3, k4, k5, k6, k7, k8, k9⟩ := HCa.out
      go_quiet (fail)
      obtain ⟨wb, hw'⟩ : ∃ wb, wb = wa.drewN nq := ⟨_, rfl⟩
      have HCb : Hid (Has gv gk gw t a b c d e f g h k x wb) := by rw [hw']; exact HCa
      have hbb : Below w1.heap.size w1 wb := by rw [hw']; exact ⟨hba.os, hba.tape, hba.output, hba.size, hba.block⟩
      rw [← hw']
      clear k0 k1 k2 k3 k4 k5 k6 k7 k8 k9 HCa hw' hba nq
      rw [not_lit]
      obtain ⟨c1, hv'⟩ : ∃ c1, Sh.ch e f g = c1 := ⟨_, rfl⟩
      have E' := Lib.hid (ch_eq e f g EE.out EF.out EG.out)
      rw [hv'] at E'
      have HC1 := Lib.hid hv'
      rw [E'.out]
      clear hv' E'
      go_wp2_with fail
      obtain ⟨k0, k1, k2, k3, k4, k5, k6, k7, k8, k9⟩ := HCb.out
      have b1 : (0 : Int) ≤ (t : Int) := by omega
      have b2 : (t : Int) < 64 := by omega
      go_quiet (fail)
      obtain ⟨wc, hw'⟩ : ∃ wc, wc = wb.drewN nq := ⟨_, rfl⟩
      have HCc : Hid (Has gv gk gw t a b c d e f g h k x wc) := by rw [hw']; exact HCb
      have hbc : Below w1.heap.size w1 wc := by rw [hw']; exact ⟨hbb.os, hbb.tape, hbb.output, hbb.size, hbb.block⟩
      rw [← hw']
      clear k0 k1 k2 k3 k4 k5 k6 k7 k8 k9 HCb hw' hbb nq
      obtain ⟨t1, hv'⟩ : ∃ t1, (h + s1 + c1 + k + x) % 4294967296 = t1 := ⟨_, rfl⟩
      have E' := Lib.hid (t1_eq h s1 c1 k x)
      rw [hv'] at E'
      have HT1 := Lib.hid hv'
      rw [E'.out]
      clear hv' E'
      go_wp2_with fail
      obtain ⟨k0, k1, k2, k3, k4, k5, k6, k7, k8, k9⟩ := HCc.out
      go_quiet ((go_at_call 36; exact Calls.quiet_of_same (turn_h _ _ EA (by decide) (by decide) _)))
      obtain ⟨wd, hw'⟩ : ∃ wd, wd = wc.drewN nq := ⟨_, rfl⟩
      have HCd : Hid (Has gv gk gw t a b c d e f g h k x wd) := by rw [hw']; exact HCc
      have hbd : Below w1.heap.size w1 wd := by rw [hw']; exact ⟨hbc.os, hbc.tape, hbc.output, hbc.size, hbc.block⟩
      rw [← hw']
      clear k0 k1 k2 k3 k4 k5 k6 k7 k8 k9 HCc hw' hbc nq
      obtain ⟨s0, hv'⟩ : ∃ s0, Sh.S0 a = s0 := ⟨_, rfl⟩
      have E' := Lib.hid (s0_eq a EA.out)
      rw [hv'] at E'
      have HS0 := Lib.hid hv'
      rw [E'.out]
      clear hv' E'
      go_wp2_with fail
      obtain ⟨k0, k1, k2, k3, k4, k5, k6, k7, k8, k9⟩ := HCd.out
      go_quiet (fail)
      obtain ⟨we, hw'⟩ : ∃ we, we = wd.drewN nq := ⟨_, rfl⟩
      have HCe : Hid (Has gv gk gw t a b c d e f g h k x we) := by rw [hw']; exact HCd
      have hbe : Below w1.heap.size w1 we := by rw [hw']; exact ⟨hbd.os, hbd.tape, hbd.output, hbd.size, hbd.block⟩
      rw [← hw']
      clear k0 k1 k2 k3 k4 k5 k6 k7 k8 k9 HCd hw' hbd nq
      obtain ⟨mj, hv'⟩ : ∃ mj, Sh.maj a b c = mj := ⟨_, rfl⟩
      have E' := Lib.hid (maj_eq a b c EA.out EB.out EC.out)
      rw [hv'] at E'
      have HMJ := Lib.hid hv'
      rw [E'.out]
      clear hv' E'
      go_wp2_with fail
      obtain ⟨k0, k1, k2, k3, k4, k5, k6, k7, k8, k9⟩ := HCe.out
      go_still_tail 26, (by kernel_rfl)
      change wpList _ _ _ _ _ we.drew
      have hbf : Below w1.heap.size w1 we.drew := hbe.drew
      generalize we.drew = wf at *
      clear k0 k1 k2 k3 k4 k5 k6 k7 k8 k9 HCe hbe
      go_wp2
      go_roundw
      case rel =>
        have eA : (((t1 : Int) + ((s0 : Int) + (mj : Int))) % 4294967296) = (((t1 + (s0 + mj)) % 4294967296 : Nat) : Int) := by omega
        have eE : (((d : Int) + (t1 : Int)) % 4294967296) = (((d + t1) % 4294967296 : Nat) : Int) := by omega
        refine ⟨t + 1, _, 8, (t1 + (s0 + mj)) % 4294967296, a, b, c, (d + t1) % 4294967296, e, f, g, by omega, by go_num, rfl, ?_, ?_, ?_, ?_⟩
        · rw [eA, eE]
          exact Lib.hid (new_eight _ _ _ _ _ _ _ _ wf hbf.size)
        · refine Lib.hid (fun z hz => ?_)
          have h1 := EA.out; have h2 := EB.out; have h3 := EC.out; have h4 := EE.out; have h5 := EF.out; have h6 := EG.out
          simp only [List.mem_cons, List.not_mem_nil, or_false] at hz
          rcases hz with rfl | rfl | rfl | rfl | rfl | rfl | rfl | rfl <;> first | assumption | exact Nat.mod_lt _ (by decide)
        · refine Lib.hid ?_
          show Sh.rd (Sh.rounds K W H0 t) (K.getD t 0) (W.getD t 0) = _
          rw [HRd.out]
          have hkg : K.getD t 0 = k := by rw [← HKx.out.1]; exact getD_of _ _ _
          have hwg : W.getD t 0 = x := by rw [← HKx.out.2]; exact getD_of _ _ _
          rw [hkg, hwg]
          have ht1 : Sh.T1 e f g h k x = t1 := by unfold Sh.T1; rw [HS1.out, HC1.out]; exact HT1.out
          have ht2 : Sh.T2 a b c = (s0 + mj) % 4294967296 := by unfold Sh.T2; rw [HS0.out, HMJ.out]
          show [(Sh.T1 e f g h k x + Sh.T2 a b c) % 4294967296, a, b, c, (d + Sh.T1 e f g h k x) % 4294967296, e, f, g] = _
          rw [ht1, ht2]
          have e1 : (t1 + (s0 + mj) % 4294967296) % 4294967296 = (t1 + (s0 + mj)) % 4294967296 := by omega
          simp only [e1]
        · rw [eA, eE]
          exact hbf.alloc hbf.size _
      case measure => simp [intOf]; omega
    · have ht64 : t = 64 := by omega
      subst ht64
      rw [show ((64 : Nat) : Int) = 64 from rfl]
      obtain ⟨V, hVd⟩ : ∃ V, V = [a, b, c, d, e, f, g, h] := ⟨_, rfl⟩
      have hVl : V.length = 8 := by rw [hVd]; rfl
      have HV2 : Hid (wr.ownsRow w1.heap.size 48 1 (.slice (some ⟨gv, 0, none⟩) 8 cv) 8 (u32s V)) := by rw [hVd]; exact HV
      have HSV : Hid (Small V) := by rw [hVd]; exact HS
      have HRV : Hid (Sh.rounds K W H0 64 = V) := by rw [hVd]; exact HRd
      have HVl := Lib.hid hVl
      have hgv : w1.heap.size ≤ gv := (World.ownsRow.lt HV2.out gv rfl).1
      clear hVd hVl HV HS HRd
      obtain ⟨wo, rfl⟩ : ∃ wo : World, wo = wr := ⟨_, rfl⟩
      go_wp2
      go_loopw [16] (fun t16 wr => ∃ (i : Nat) (l : List Nat), i ≤ 8 ∧ t16 = .int .i64 i ∧ Hid (wr.ownsRow w1.heap.size 48 1 (.slice (some ⟨gv, 0, none⟩) 8 cv) 8 (u32s l)) ∧
          Hid (l.length = 8 ∧ Small l ∧ ∀ j, j < 8 → l.getD j 0 = if j < i then (V.getD j 0 + H0.getD j 0) % 4294967296 else V.getD j 0) ∧ Below w1.heap.size w1 wr) (fun t16 _ => (8 - intOf t16).toNat)
      case atStart => exact ⟨0, V, by omega, rfl, HV2, Lib.hid ⟨HVl.out, HSV.out, fun j hj => by simp⟩, hbel⟩
      case round =>
        obtain ⟨i, l, hi8, rfl, HL, HF, hbl⟩ := hrel
        by_cases hil : i < 8
        · have hl8 := HF.out.1
          have hil' : i < l.length := by omega
          have hiH : i < H0.length := by have := HLH.out; omega
          obtain ⟨p, hp⟩ : ∃ p, l[i] = p := ⟨_, rfl⟩
          obtain ⟨q, hq⟩ : ∃ q, H0[i] = q := ⟨_, rfl⟩
          have g1 : wr.cell? ⟨gv, i, none⟩ = some (.int .u32 (p : Int)) := by rw [World.ownsRow.cellAt HL.out i (by omega), u32s_get _ _ hil', hp]
          have g2 : wr.cell? ⟨gh, i, none⟩ = some (.int .u32 (q : Int)) := by rw [hbl.cell (p := ⟨gh, i, none⟩) (ownU_lt HOH1.out), ownU_cell HOH1.out i hiH, hq]
          have g3 : wr.frozen? ⟨gv, i, none⟩ = false := World.ownsRow.frozenAt HL.out i
          have hPQ : p = V.getD i 0 ∧ q = H0.getD i 0 := by
            have h1 := HF.out.2.2 i hil
            rw [if_neg (by omega), getD_of l i hil', hp] at h1
            exact ⟨h1, by rw [getD_of H0 i hiH, hq]⟩
          have HPQ := Lib.hid hPQ
          have hst := World.ownsRow.stored HL.out i (.int .u32 (((p : Int) + (q : Int)) % 4294967296))
          have eS : (((p : Int) + (q : Int)) % 4294967296) = (((p + q) % 4294967296 : Nat) : Int) := by omega
          have HF2 : Hid ((l.set i ((p + q) % 4294967296)).length = 8 ∧ Small (l.set i ((p + q) % 4294967296)) ∧ ∀ j, j < 8 → (l.set i ((p + q) % 4294967296)).getD j 0 = if j < i + 1 then (V.getD j 0 + H0.getD j 0) % 4294967296 else V.getD j 0) := by
            obtain ⟨f1, f2, f3⟩ := HF.out
            refine Lib.hid ⟨by rw [List.length_set]; exact f1, fun z hz => ?_, fun j hj => ?_⟩
            · rcases List.mem_or_eq_of_mem_set hz with h' | h'
              · exact f2 z h'
              · rw [h']; exact Nat.mod_lt _ (by decide)
            · rw [getD_of _ j (by rw [List.length_set]; omega)]
              by_cases ej : j = i
              · subst ej
                rw [List.getElem_set_self, if_pos (by omega), ← HPQ.out.1, ← HPQ.out.2]
              · rw [List.getElem_set_ne (by omega)]
                have := f3 j hj
                rw [getD_of l j (by omega)] at this
                rw [this]
                by_cases hji : j < i
                · rw [if_pos hji, if_pos (by omega)]
                · rw [if_neg hji, if_neg (by omega)]
          have Hst := Lib.hid hst
          have hi0 : (0 : Int) ≤ (i : Int) := by omega
          have hi7 : (i : Int) < 8 := by omega
          clear hst hp hq hPQ hl8 hil' hiH
          go_wp2_with fail
          go_still_tail 12, (by kernel_rfl)
          change wpList _ _ _ _ _ wr.drew
          have g1' : wr.drew.cell? ⟨gv, i, none⟩ = some (.int .u32 (p : Int)) := g1
          have g3' : wr.drew.frozen? ⟨gv, i, none⟩ = false := g3
          have HL' : Hid (wr.drew.ownsRow w1.heap.size 48 1 (.slice (some ⟨gv, 0, none⟩) 8 cv) 8 (u32s l)) := HL
          have hbl' : Below w1.heap.size w1 wr.drew := hbl.drew
          clear g1 g2 g3 Hst HL hbl
          generalize wr.drew = wx at *
          have hst := World.ownsRow.stored HL'.out i (.int .u32 (((p : Int) + (q : Int)) % 4294967296))
          have Hst : Hid ((wx.setCell ⟨gv, i, none⟩ (.int .u32 (((p : Int) + (q : Int)) % 4294967296))).ownsRow w1.heap.size 48 1 (.slice (some ⟨gv, 0, none⟩) 8 cv) 8 (u32s (l.set i ((p + q) % 4294967296)))) := by
            rw [← u32s_set, ← eS]; exact Lib.hid hst.1
          have Hbs : Hid (Below w1.heap.size w1 (wx.setCell ⟨gv, i, none⟩ (.int .u32 (((p : Int) + (q : Int)) % 4294967296)))) := Lib.hid (hbl'.setCell (p := ⟨gv, i, none⟩) hgv _)
          clear hst HL' hbl' eS
          go_wp2
          go_roundw
          case rel => exact ⟨i + 1, _, by omega, by go_num, Hst, HF2, Hbs.out⟩
          case measure => simp [intOf]; omega
        · have hi8' : i = 8 := by omega
          subst hi8'
          have HE : Hid (l = Sh.blockL K W H0) := by
            obtain ⟨f1, f2, f3⟩ := HF.out
            have hbk : Sh.blockL K W H0 = List.zipWith (fun a b => (a + b) % 4294967296) V H0 := by unfold Sh.blockL; rw [HRV.out]
            rw [hbk]
            refine Lib.hid (List.ext_getElem ?_ fun j h1 h2 => ?_)
            · rw [List.length_zipWith, HVl.out, HLH.out]; omega
            · have h3 := f3 j (by omega)
              rw [if_pos (by omega), getD_of l j h1, getD_of V j (by have := HVl.out; omega), getD_of H0 j (by have := HLH.out; omega)] at h3
              rw [h3, List.getElem_zipWith]
          go_wp2
          go_ret
          refine ⟨_, rfl, ?_, HB.out.trans (hbl.mono hsz)⟩
          rw [← HE.out]
          refine ownU_mono (B := w1.heap.size) ?_ hsz
          unfold OwnU
          rw [HF.out.1]
          exact HL.out
end Go.Proofs.YtkomfgoloepekaaDoor.Rf
