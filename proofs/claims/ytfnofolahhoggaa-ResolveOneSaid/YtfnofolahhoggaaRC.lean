/- The document's May: an object. -/
import Derived.Test.YtfnofolahhoggaaRB
import Derived.Test.YtfnofolahhoggaaNG
import Derived.Deep.DeepCutAuto
set_option linter.unusedVariables false
set_option linter.unusedSimpArgs false
namespace Go.Proofs.Ytfnofolahhoggaa
open Go Go.RowKit Oj

theorem below_drew {w wr : World} (hb : Below w.heap.size w wr) (n : Nat) : Below w.heap.size w (wr.drewN n) := below_call hb (below_drewN _ n)
theorem Blk.drewN {w : World} {g : Nat} {t : TypeId} {cs : List Value} (h : Blk w g t cs) (n : Nat) : Blk (w.drewN n) g t cs := h

set_option maxHeartbeats 8000000 in
set_option maxRecDepth 100000 in
theorem rmay_any (v : Value) (x : Ob) (hf : obFits x) (w : World) (hA : ObAt w v x) : Calls Try.prog 34 #[v] w fun e w' => e = .returned (.bool (obOk x)) ∧ Below w.heap.size w w' := by
  obtain ⟨nm, l⟩ := x
  obtain ⟨hf1, hf2, hf3⟩ := hf
  obtain ⟨vs, rfl, hS⟩ := hA
  simp only at hf1 hf2 hf3 hS ⊢
  have H1 := Lib.hid (fun W => rname_any (tx nm) (by rw [tx_size]; exact hf1) W)
  rw [by_tx] at H1
  obtain ⟨p1, e1⟩ : ∃ p, p = nameOk nm := ⟨_, rfl⟩
  obtain ⟨R, N, ⟨a, c, rfl, h2⟩, h3⟩ := hS
  obtain ⟨n, hn⟩ : ∃ n, n = l.length := ⟨_, rfl⟩
  obtain ⟨M, hM⟩ : ∃ M, M = tx nm := ⟨_, rfl⟩
  rw [← e1, ← hM] at H1
  rw [← hn] at h2 ⊢
  rw [← hM]
  have HN := Lib.hid hn
  have H2 := Lib.hid h2
  have H3 := Lib.hid h3
  have HF := Lib.hid hf3
  obtain ⟨E, hE⟩ : ∃ E, E = obOk ⟨nm, l⟩ := ⟨_, rfl⟩
  have HE : Hid (E = (p1 && decide (n ≤ 64) && symsOk l)) := Lib.hid (by rw [hE, e1, hn]; rfl)
  rw [← hE]
  have hni : (n : Int) ≤ 1599289640402 := by omega
  have HB0 := Lib.hid (below_new1 w (.cells #[.string M, .slice a n c] 43))
  have HX0 := Lib.hid (Blk.new w 43 [.string M, .slice a n c])
  clear e1 hn hM h2 h3 hf1 hf2 hf3 hE
  go_enter Try.func34, Try.ntmps34
  go_wp2_with fail
  go_loopw [3] (fun i wr => ∃ k : Nat, (k : Int) ≤ n ∧ i = .int .i64 k ∧ Hid (∀ j, j < k → (symOk (l.getD j Sy.nought) && apartOk l j) = true) ∧ Hid (Below w.heap.size w wr) ∧ Hid (Blk wr w.heap.size 43 [.string M, .slice a n c])) (fun i _ => n - (intOf i).toNat)
  case atStart => exact ⟨0, by omega, rfl, Lib.hid fun j hj => absurd hj (by omega), HB0, HX0⟩
  case round =>
    clear HB0 HX0
    obtain ⟨k, hk, rfl, HK, HB, HX⟩ := hrel
    have b1 : wr.cell? ⟨w.heap.size, 1, none⟩ = some (.slice a n c) := HX.out.cell 1
    by_cases hlt : k < n
    · obtain ⟨b, o, rfl, hbl, hcl⟩ := H2.out (by omega)
      have HCL := Lib.hid hcl
      obtain ⟨s, hs⟩ : ∃ s, s = l.getD k Sy.nought := ⟨_, rfl⟩
      have hkl : k < l.length := by rw [← HN.out]; exact hlt
      have hL := ((hcl k hlt).below HB.out hbl)
      obtain ⟨hr0, hn0⟩ := H3.out k hkl
      have hfs := HF.out k hkl
      rw [← hs] at hL hr0 hn0 hfs
      obtain ⟨c0, c1, c2, c3, c4, c5, c6⟩ := hL.sy
      have hbr : b < wr.heap.size := Nat.lt_of_lt_of_le hbl HB.out.size
      have HI := Lib.hid (fun W (hq : Below w.heap.size w W) => rsym_any s hfs _ W ((SymAt.mk hr0 hn0).below hq))
      obtain ⟨p, hp⟩ : ∃ p, p = symOk s := ⟨_, rfl⟩
      rw [← hp] at HI
      have HP : Hid ((symOk (l.getD k Sy.nought) && apartOk l k) = (p && apartOk l k)) := Lib.hid (by rw [← hs, ← hp])
      obtain ⟨u0, g0⟩ : ∃ u, u = tx s.name := ⟨_, rfl⟩
      obtain ⟨u1, g1⟩ : ∃ u, u = s.bind := ⟨_, rfl⟩
      obtain ⟨u2, g2⟩ : ∃ u, u = s.kind := ⟨_, rfl⟩
      obtain ⟨u3, g3⟩ : ∃ u, u = s.size := ⟨_, rfl⟩
      obtain ⟨u4, g4⟩ : ∃ u, u = tx s.bytes := ⟨_, rfl⟩
      obtain ⟨u5, g5⟩ : ∃ u, u = R k := ⟨_, rfl⟩
      obtain ⟨u6, g6⟩ : ∃ u, u = N k := ⟨_, rfl⟩
      obtain ⟨ra, rc, hrv, _⟩ := hr0
      obtain ⟨na, nc, hnv, _⟩ := hn0
      rw [← g0, ← g1, ← g2, ← g3, ← g4, ← g5, ← g6] at HI
      rw [← g0] at c0
      rw [← g1] at c1
      rw [← g2] at c2
      rw [← g3] at c3
      rw [← g4] at c4
      rw [← g5] at c5 hrv
      rw [← g6] at c6 hnv
      obtain ⟨rn, hrn⟩ : ∃ x, x = s.rels.length := ⟨_, rfl⟩
      obtain ⟨nn, hnn⟩ : ∃ x, x = s.notes.length := ⟨_, rfl⟩
      rw [← hrn] at hrv
      rw [← hnn] at hnv
      have hd : decide (k < n) = true := decide_eq_true hlt
      have HU0 : Hid (by' u0 = (l.getD k Sy.nought).name) := Lib.hid (by rw [g0, by_tx, hs])
      clear hcl hL hfs hs hp g0 g1 g2 g3 g4 g5 g6 hrn hnn
      subst hrv hnv
      go_wp2_with fail
      refine (HI.out _ HB.out).mono ?_; rintro e w2 ⟨rfl, q2⟩
      have HB2 := Lib.hid (below_call HB.out q2)
      have HX2 := Lib.hid (HX.out.call q2)
      clear q2 b1 c0 c1 c2 c3 c4 c5 c6 hbr
      cases p
      · have hr : E = false := by
          rw [HE.out]
          unfold symsOk
          rw [allN_false (k := k) hkl (by rw [HP.out]; rfl), Bool.and_false]
        subst hr
        go_wp2_with fail
        go_ret
        exact ⟨rfl, HB2.out⟩
      go_wp2_with fail
      go_loopw [4] (fun i wi => ∃ m : Nat, (m : Int) ≤ k ∧ i = .int .i64 m ∧ Hid (∀ j, j < m → (l.getD j Sy.nought).name ≠ (l.getD k Sy.nought).name) ∧ Hid (Below w.heap.size w wi) ∧ Hid (Blk wi w.heap.size 43 [.string M, .slice (some ⟨b, o, none⟩) n c])) (fun i _ => k - (intOf i).toNat)
      case atStart => exact ⟨0, by omega, rfl, Lib.hid fun j hj => absurd hj (by omega), HB2, HX2⟩
      case round =>
        clear HB2 HX2
        obtain ⟨m, hm, rfl, HM, HBi, HXi⟩ := hrel
        by_cases hmk : m < k
        · have hmd : decide (m < k) = true := decide_eq_true hmk
          have hmn : m < n := by omega
          have hmn2 : decide (m < n) = true := decide_eq_true hmn
          obtain ⟨V, hV⟩ : ∃ V, V = tx (l.getD m Sy.nought).name := ⟨_, rfl⟩
          have cm := ((HCL.out m hmn).below HBi.out hbl).sy.1
          have ck := ((HCL.out k hlt).below HBi.out hbl).sy.1
          have e0 : u0 = tx (l.getD k Sy.nought).name := by rw [← HU0.out, tx_by]
          rw [← hV] at cm
          rw [← e0] at ck
          have b1 : wr.cell? ⟨w.heap.size, 1, none⟩ = some (.slice (some ⟨b, o, none⟩) n c) := HXi.out.cell 1
          have hst := str_eq V u0
          have hbV : by' V = (l.getD m Sy.nought).name := by rw [hV, by_tx]
          rw [hbV, HU0.out] at hst
          clear e0 hV hbV
          by_cases he : (l.getD m Sy.nought).name = (l.getD k Sy.nought).name
          · rw [decide_eq_true he] at hst
            have hr : E = false := by
              rw [HE.out]
              unfold symsOk
              rw [allN_false (k := k) hkl (by rw [HP.out]; unfold apartOk; rw [allN_false hmk (decide_eq_false fun hn => hn he)]; rfl), Bool.and_false]
            subst hr
            clear he
            go_upto_region 9 with (fail)
            go_quiet (fail)
            go_wp2_with fail
            go_ret
            exact ⟨rfl, below_drew HBi.out _⟩
          · rw [decide_eq_false he] at hst
            have HM2 : Hid (∀ j, j < m + 1 → (l.getD j Sy.nought).name ≠ (l.getD k Sy.nought).name) := Lib.hid fun j hj => by
              by_cases hx : j = m
              · subst hx; exact he
              · exact HM.out j (by omega)
            clear he HM
            go_upto_region 9 with (fail)
            go_quiet (fail)
            go_wp2_with fail
            clear cm ck b1 hst
            go_roundw
            case rel => exact ⟨m + 1, by omega, by go_num, HM2, Lib.hid (below_drew HBi.out _), Lib.hid (HXi.out.drewN _)⟩
            case measure => simp [intOf]; omega
        · have hmd : decide (m < k) = false := decide_eq_false hmk
          have HK2 : Hid (∀ j, j < k + 1 → (symOk (l.getD j Sy.nought) && apartOk l j) = true) := Lib.hid fun j hj => by
            by_cases hx : j = k
            · subst hx
              rw [HP.out]
              unfold apartOk
              rw [allN_true fun j hj => decide_eq_true (HM.out j (by omega))]
              rfl
            · exact HK.out j (by omega)
          clear hmk HM HK
          go_wp2_with fail
          go_roundw
          case rel => exact ⟨k + 1, by omega, by go_num, HK2, HBi, HXi⟩
          case measure => simp [intOf]; omega
    · have hd : decide (k < n) = false := decide_eq_false hlt
      have HA : Hid (symsOk l = true) := Lib.hid (by
        unfold symsOk
        exact allN_true fun j hj => HK.out j (by rw [← HN.out] at hj; omega))
      have b0 : wr.cell? ⟨w.heap.size, 0, none⟩ = some (.string M) := HX.out.cell 0
      clear hlt HK
      go_wp2_with fail
      refine (H1.out _).mono ?_; rintro e w2 ⟨rfl, rfl⟩
      cases p1
      · have hr : E = false := by rw [HE.out]; simp
        subst hr
        go_wp2_with fail
        go_ret
        exact ⟨rfl, HB.out⟩
      · by_cases hb : n ≤ 64
        · have hb2 : (n : Int) ≤ 64 := by omega
          have hr : E = true := by rw [HE.out, HA.out, decide_eq_true hb]; rfl
          subst hr
          clear hb
          go_wp2_with fail
          go_ret
          exact ⟨rfl, HB.out⟩
        · have hb2 : (64 : Int) < (n : Int) := by omega
          have hr : E = false := by rw [HE.out, decide_eq_false hb]; rfl
          subst hr
          clear hb
          go_wp2_with fail
          go_ret
          exact ⟨ret_bool (decide_eq_false (by omega)), HB.out⟩
end Go.Proofs.Ytfnofolahhoggaa
