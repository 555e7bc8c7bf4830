/- Some texts of one proof, one behind the other; each has its own head below. -/
import Derived.Test.YtgdbhmlmioihpaaGreatDoorX32
/- The library's sort at numbers of 32 bits: partition. -/
section
set_option linter.unusedVariables false
namespace Go.Proofs.YtgdbhmlmioihpaaGreatDoor
open Go.RowKit Go.Sort

/-- The last step: data[j] and data[a] change places, where j may be a. -/
theorem swap_same (d : Array Int) (i : Nat) : swp d i i = d.setIfInBounds i d[i]! := by
  unfold swp; simp

set_option maxHeartbeats 2000000 in
set_option maxRecDepth 1000000 in
theorem part_any (P R : List Value) (g off cap a b pv : Nat) (d : Array Int) (w : World) (hH : Row P R w g off d) (hap : a < pv) (hpb : pv < b) (hb : b ≤ d.size) (hsz : d.size < 1099511627776) :
    Calls Tryz.prog 117 #[.slice (some ⟨g, off, none⟩) d.size cap, .int .i64 a, .int .i64 b, .int .i64 pv] w fun e w' =>
      e = .returned (.tuple #[.int .i64 (partition ltInt d a b pv).1, .bool (partition ltInt d a b pv).2.1]) ∧ Row P R w' g off (partition ltInt d a b pv).2.2 ∧ w.grownBy w' (some g) := by
  have HR := Lib.hid hH
  clear hH
  obtain ⟨G, hG⟩ : ∃ G : Nat → Int, ∀ t, G t = d[t]! := ⟨fun t => d[t]!, fun _ => rfl⟩
  have hcw : ∀ t, t < d.size → w.cell? ⟨g, off + t, none⟩ = some (.int .u32 (G t)) := fun t ht => by
    rw [hG]; exact HR.out.cell t (by omega)
  have hfw : ∀ t, t < d.size → w.frozen? ⟨g, off + t, none⟩ = false := fun t _ => HR.out.frozen t
  have HG : Hid (∀ t, G t = d[t]!) := Lib.hid hG
  clear hG
  obtain ⟨F, hF⟩ : ∃ F, F = partition ltInt d a b pv := ⟨_, rfl⟩
  rw [← hF]
  unfold partition at hF
  have hne : ¬ pv = a := by omega
  obtain ⟨i, hi⟩ : ∃ i, i = a + 1 := ⟨_, rfl⟩
  obtain ⟨j, hj⟩ : ∃ j, j = b - 1 := ⟨_, rfl⟩
  have ei : (a : Int) + 1 = (i : Int) := by omega
  have ej : (b : Int) - 1 = (j : Int) := by omega
  rw [← hi, ← hj] at hF
  have HF0 := Lib.hid hF
  have hij : i ≤ j + 1 := by omega
  have hjb : j < b := by omega
  have hai : a < i := by omega
  clear hi hj hF
  go_enter Tryz.func117, Tryz.ntmps117
  go_wp2_with fail
  go_region
  have hsw := swap_drew HR.out (World.grownBy.refl w (some g)) a pv (by omega) (by omega) (HG.out pv) (HG.out a)
  obtain ⟨dk, hdk⟩ : ∃ dk, dk = swp d a pv := ⟨_, rfl⟩
  have hF := HF0.out
  rw [← hdk] at hsw hF
  have HRk := Lib.hid hsw.1
  have HGk := Lib.hid hsw.2
  have hsk : dk.size = d.size := by rw [hdk, size_swp]
  have HF := Lib.hid hF
  clear hsw hF hdk hcw hfw HG HF0
  go_upto_block 0 with fail
  go_cut [10] (fun s wx => ∃ x : Nat, s = .int .i64 x ∧ Hid (x = scanUp (fun x => ltInt x dk[a]!) dk j i) ∧ Hid (Row P R wx g off dk) ∧ Hid (w.grownBy wx (some g)))
  case first =>
    go_wp2_with fail
    go_loopw [10] (fun s wr2 => ∃ x : Nat, s = .int .i64 x ∧ i ≤ x ∧ x ≤ j + 1 ∧ Hid (Row P R wr2 g off dk) ∧ Hid (w.grownBy wr2 (some g)) ∧ Hid (scanUp (fun x => ltInt x dk[a]!) dk j x = scanUp (fun x => ltInt x dk[a]!) dk j i)) (fun s _ => (((j : Nat) : Int) + 1 - intOf s).toNat)
    case atStart => exact ⟨i, by first | rfl | go_num | (congr 1 <;> omega), Nat.le_refl _, hij, HRk, HGk, Lib.hid rfl⟩
    case round =>
      obtain ⟨x, rfl, hx1, hx2, HRx, HGx, HSx⟩ := hrel
      obtain ⟨G, hG⟩ : ∃ G : Nat → Int, ∀ t, G t = dk[t]! := ⟨fun t => dk[t]!, fun _ => rfl⟩
      have hcw : ∀ t, t < d.size → wr.cell? ⟨g, off + t, none⟩ = some (.int .u32 (G t)) := fun t ht => by
        rw [hG]; exact HRx.out.cell t (by omega)
      have hfw : ∀ t, t < d.size → wr.frozen? ⟨g, off + t, none⟩ = false := fun t _ => HRx.out.frozen t
      have HG : Hid (∀ t, G t = dk[t]!) := Lib.hid hG
      clear hG
      by_cases hxj : x ≤ j
      · go_wp2_with fail
        go_quiet (first | (go_at_call 115; refine Calls.quiet_of_same (less_any _ _ _)))
        go_wp2_with fail
        · have hl : ltInt (G x) (G a) = true := by
            have : (ltInt (G x) (G a)) = true := by assumption
            simpa using this
          rw [HG.out, HG.out] at hl
          go_roundw
          case rel => exact ⟨x + 1, by first | rfl | go_num | (congr 1 <;> omega), by omega, by omega, HRx, Lib.hid (only_drewN HGx.out nq), Lib.hid (by rw [← HSx.out]; exact (up_on (by omega) (by simp [hl])).symm)⟩
          case measure => simp [intOf] <;> omega
        · have hl : ltInt (G x) (G a) = false := by
            have : (ltInt (G x) (G a)) = false := by assumption
            simpa using this
          rw [HG.out, HG.out] at hl
          go_meet
          exact ⟨x, rfl, Lib.hid (by rw [← HSx.out]; exact (up_off (Or.inr (by simp [hl]))).symm), HRx, Lib.hid (only_drewN HGx.out nq)⟩
      · go_wp2_with fail
        go_quiet (first | (go_at_call 115; refine Calls.quiet_of_same (less_any _ _ _)))
        go_wp2_with fail
        go_meet
        exact ⟨x, rfl, Lib.hid (by rw [← HSx.out]; exact (up_off (Or.inl (by omega))).symm), HRx, Lib.hid (only_drewN HGx.out nq)⟩
  case rest =>
    obtain ⟨i2, rfl, HI2, HRk2, HGk2⟩ := hcut
    have hi2 : i ≤ i2 ∧ i2 ≤ j + 1 := by
      obtain ⟨r1, r2, _⟩ := two_scans (fun x => ltInt x dk[a]!) (fun x => !ltInt x dk[a]!) (fun x => rfl) dk i j i2 _ (by omega) hij HI2.out rfl
      exact ⟨r1, r2⟩
    have hi2j : i2 ≤ j + 1 := hi2.2
    clear HRk HGk
    go_upto_block 2 with fail
    go_cut [11] (fun s wx => ∃ x : Nat, s = .int .i64 x ∧ Hid (x = scanDown (fun x => !ltInt x dk[a]!) dk i2 j) ∧ Hid (Row P R wx g off dk) ∧ Hid (w.grownBy wx (some g)))
    case first =>
      go_wp2_with fail
      go_loopw [11] (fun s wr2 => ∃ x : Nat, s = .int .i64 x ∧ x ≤ j ∧ i2 ≤ x + 1 ∧ Hid (Row P R wr2 g off dk) ∧ Hid (w.grownBy wr2 (some g)) ∧ Hid (scanDown (fun x => !ltInt x dk[a]!) dk i2 x = scanDown (fun x => !ltInt x dk[a]!) dk i2 j)) (fun s _ => (intOf s + 1).toNat)
      case atStart => exact ⟨j, by first | rfl | go_num | (congr 1 <;> omega), Nat.le_refl _, hi2j, HRk2, HGk2, Lib.hid rfl⟩
      case round =>
        obtain ⟨x, rfl, hx1, hx2, HRx, HGx, HSx⟩ := hrel
        obtain ⟨G, hG⟩ : ∃ G : Nat → Int, ∀ t, G t = dk[t]! := ⟨fun t => dk[t]!, fun _ => rfl⟩
        have hcw : ∀ t, t < d.size → wr.cell? ⟨g, off + t, none⟩ = some (.int .u32 (G t)) := fun t ht => by
          rw [hG]; exact HRx.out.cell t (by omega)
        have hfw : ∀ t, t < d.size → wr.frozen? ⟨g, off + t, none⟩ = false := fun t _ => HRx.out.frozen t
        have HG : Hid (∀ t, G t = dk[t]!) := Lib.hid hG
        clear hG
        by_cases hxj : i2 ≤ x
        · go_wp2_with fail
          go_quiet (first | (go_at_call 115; refine Calls.quiet_of_same (less_any _ _ _)))
          go_wp2_with fail
          · have hl : ltInt (G x) (G a) = false := by
              have : (!ltInt (G x) (G a)) = true := by assumption
              simpa using this
            rw [HG.out, HG.out] at hl
            go_roundw
            case rel => exact ⟨x - 1, by first | rfl | go_num | (congr 1 <;> omega), by omega, by omega, HRx, Lib.hid (only_drewN HGx.out nq), Lib.hid (by rw [← HSx.out]; exact (dn_on (by omega) (by omega) (by simp [hl])).symm)⟩
            case measure => simp [intOf] <;> omega
          · have hl : ltInt (G x) (G a) = true := by
              have : (!ltInt (G x) (G a)) = false := by assumption
              simpa using this
            rw [HG.out, HG.out] at hl
            go_meet
            exact ⟨x, rfl, Lib.hid (by rw [← HSx.out]; exact (dn_off (Or.inr (by simp [hl]))).symm), HRx, Lib.hid (only_drewN HGx.out nq)⟩
        · go_wp2_with fail
          go_quiet (first | (go_at_call 115; refine Calls.quiet_of_same (less_any _ _ _)))
          go_wp2_with fail
          go_meet
          exact ⟨x, rfl, Lib.hid (by rw [← HSx.out]; exact (dn_off (Or.inl (by omega))).symm), HRx, Lib.hid (only_drewN HGx.out nq)⟩
    case rest =>
      obtain ⟨j2, rfl, HJ2, HRk22, HGk22⟩ := hcut
      obtain ⟨r1, r2, r3, r4, r5⟩ := two_scans (fun x => ltInt x dk[a]!) (fun x => !ltInt x dk[a]!) (fun x => rfl) dk i j i2 j2 (by omega) hij HI2.out HJ2.out
      have hF := HF.out
      rw [← HI2.out, ← HJ2.out] at hF
      clear HRk2 HGk2
      obtain ⟨G, hG⟩ : ∃ G : Nat → Int, ∀ t, G t = dk[t]! := ⟨fun t => dk[t]!, fun _ => rfl⟩
      have hcw : ∀ t, t < d.size → wc.cell? ⟨g, off + t, none⟩ = some (.int .u32 (G t)) := fun t ht => by
        rw [hG]; exact HRk22.out.cell t (by omega)
      have hfw : ∀ t, t < d.size → wc.frozen? ⟨g, off + t, none⟩ = false := fun t _ => HRk22.out.frozen t
      have HG : Hid (∀ t, G t = dk[t]!) := Lib.hid hG
      clear hG
      by_cases hgt : (j2 : Int) < (i2 : Int)
      · rw [if_pos (by omega)] at hF
        have HFF := Lib.hid hF
        clear hF
        rcases Nat.eq_or_lt_of_le (show a ≤ j2 by omega) with hja | hja
        · subst hja
          go_wp2_with fail
          go_region
          have hsw := swap_drew HRk22.out HGk22.out a a (by omega) (by omega) (HG.out a) (HG.out a)
          go_wp2
          go_ret2
          rw [HFF.out]
          exact ⟨rfl, hsw.1, hsw.2⟩
        · have hne2 : ¬ a = j2 := by omega
          have hne3 : ¬ j2 = a := by omega
          go_wp2_with fail
          go_region
          have hsw := swap_drew HRk22.out HGk22.out j2 a (by omega) (by omega) (HG.out a) (HG.out j2)
          go_wp2
          go_ret2
          rw [HFF.out]
          exact ⟨rfl, hsw.1, hsw.2⟩
      · rw [if_neg (by omega)] at hF
        have hlt2 : i2 < j2 := r5 (by omega)
        have hne2 : ¬ j2 = i2 := by omega
        obtain ⟨L, hL⟩ : ∃ L, L = partLoop ltInt a (i2 + 1) (j2 - 1) (swp dk i2 j2) := ⟨_, rfl⟩
        rw [← hL] at hF
        have HL := Lib.hid hL
        have HFF := Lib.hid hF
        clear hF hL
        go_wp2_with fail
        go_region
        have hsw := swap_drew HRk22.out HGk22.out i2 j2 (by omega) (by omega) (HG.out j2) (HG.out i2)
        have HS1 := Lib.hid hsw.1
        have HS2 := Lib.hid hsw.2
        clear hsw
        go_wp2_with fail
        go_loopw [10, 11] (fun s9 s10 wr => ∃ (i j : Nat) (dk : Array Int), s9 = .int .i64 i ∧ s10 = .int .i64 j ∧ a < i ∧ i ≤ j + 1 ∧ j < b ∧ dk.size = d.size ∧ Hid (Row P R wr g off dk) ∧ Hid (w.grownBy wr (some g)) ∧
            Hid (partLoop ltInt a i j dk = L)) (fun s9 s10 _ => (intOf s10 + 1 - intOf s9).toNat)
        case atStart => exact ⟨i2 + 1, j2 - 1, _, by go_num, by congr 1; omega, by omega, by omega, by omega, by rw [size_swp]; exact hsk, HS1, HS2, Lib.hid HL.out.symm⟩
        case round =>
          clear hcw hfw HG HS1 HS2 HRk22 HGk22 HI2 HJ2 r1 r2 r3 r4 r5 hlt2 hgt hi2 hi2j hne2 hij hjb hai hsk ei ej HF
          rename_i i0 j0
          obtain ⟨i, j, dl, rfl, rfl, hai, hij, hjb, hsk, HRl, HGl, HO⟩ := hrel
          go_upto_block 6 with fail
          go_cut [10] (fun s wx => ∃ x : Nat, s = .int .i64 x ∧ Hid (x = scanUp (fun x => ltInt x dl[a]!) dl j i) ∧ Hid (Row P R wx g off dl) ∧ Hid (w.grownBy wx (some g)))
          case first =>
            go_wp2_with fail
            go_loopw [10] (fun s wr2 => ∃ x : Nat, s = .int .i64 x ∧ i ≤ x ∧ x ≤ j + 1 ∧ Hid (Row P R wr2 g off dl) ∧ Hid (w.grownBy wr2 (some g)) ∧ Hid (scanUp (fun x => ltInt x dl[a]!) dl j x = scanUp (fun x => ltInt x dl[a]!) dl j i)) (fun s _ => (((j : Nat) : Int) + 1 - intOf s).toNat)
            case atStart => exact ⟨i, by first | rfl | go_num | (congr 1 <;> omega), Nat.le_refl _, hij, HRl, HGl, Lib.hid rfl⟩
            case round =>
              obtain ⟨x, rfl, hx1, hx2, HRx, HGx, HSx⟩ := hrel
              obtain ⟨G, hG⟩ : ∃ G : Nat → Int, ∀ t, G t = dl[t]! := ⟨fun t => dl[t]!, fun _ => rfl⟩
              have hcw : ∀ t, t < d.size → wr.cell? ⟨g, off + t, none⟩ = some (.int .u32 (G t)) := fun t ht => by
                rw [hG]; exact HRx.out.cell t (by omega)
              have hfw : ∀ t, t < d.size → wr.frozen? ⟨g, off + t, none⟩ = false := fun t _ => HRx.out.frozen t
              have HG : Hid (∀ t, G t = dl[t]!) := Lib.hid hG
              clear hG
              by_cases hxj : x ≤ j
              · go_wp2_with fail
                go_quiet (first | (go_at_call 115; refine Calls.quiet_of_same (less_any _ _ _)))
                go_wp2_with fail
                · have hl : ltInt (G x) (G a) = true := by
                    have : (ltInt (G x) (G a)) = true := by assumption
                    simpa using this
                  rw [HG.out, HG.out] at hl
                  go_roundw
                  case rel => exact ⟨x + 1, by first | rfl | go_num | (congr 1 <;> omega), by omega, by omega, HRx, Lib.hid (only_drewN HGx.out nq), Lib.hid (by rw [← HSx.out]; exact (up_on (by omega) (by simp [hl])).symm)⟩
                  case measure => simp [intOf] <;> omega
                · have hl : ltInt (G x) (G a) = false := by
                    have : (ltInt (G x) (G a)) = false := by assumption
                    simpa using this
                  rw [HG.out, HG.out] at hl
                  go_meet
                  exact ⟨x, rfl, Lib.hid (by rw [← HSx.out]; exact (up_off (Or.inr (by simp [hl]))).symm), HRx, Lib.hid (only_drewN HGx.out nq)⟩
              · go_wp2_with fail
                go_quiet (first | (go_at_call 115; refine Calls.quiet_of_same (less_any _ _ _)))
                go_wp2_with fail
                go_meet
                exact ⟨x, rfl, Lib.hid (by rw [← HSx.out]; exact (up_off (Or.inl (by omega))).symm), HRx, Lib.hid (only_drewN HGx.out nq)⟩
          case rest =>
            obtain ⟨i4, rfl, HI4, HRl2, HGl2⟩ := hcut
            have hi4 : i ≤ i4 ∧ i4 ≤ j + 1 := by
              obtain ⟨r1, r2, _⟩ := two_scans (fun x => ltInt x dl[a]!) (fun x => !ltInt x dl[a]!) (fun x => rfl) dl i j i4 _ (by omega) hij HI4.out rfl
              exact ⟨r1, r2⟩
            have hi4j : i4 ≤ j + 1 := hi4.2
            clear HRl HGl
            go_upto_block 8 with fail
            go_cut [11] (fun s wx => ∃ x : Nat, s = .int .i64 x ∧ Hid (x = scanDown (fun x => !ltInt x dl[a]!) dl i4 j) ∧ Hid (Row P R wx g off dl) ∧ Hid (w.grownBy wx (some g)))
            case first =>
              go_wp2_with fail
              go_loopw [11] (fun s wr2 => ∃ x : Nat, s = .int .i64 x ∧ x ≤ j ∧ i4 ≤ x + 1 ∧ Hid (Row P R wr2 g off dl) ∧ Hid (w.grownBy wr2 (some g)) ∧ Hid (scanDown (fun x => !ltInt x dl[a]!) dl i4 x = scanDown (fun x => !ltInt x dl[a]!) dl i4 j)) (fun s _ => (intOf s + 1).toNat)
              case atStart => exact ⟨j, by first | rfl | go_num | (congr 1 <;> omega), Nat.le_refl _, hi4j, HRl2, HGl2, Lib.hid rfl⟩
              case round =>
                obtain ⟨x, rfl, hx1, hx2, HRx, HGx, HSx⟩ := hrel
                obtain ⟨G, hG⟩ : ∃ G : Nat → Int, ∀ t, G t = dl[t]! := ⟨fun t => dl[t]!, fun _ => rfl⟩
                have hcw : ∀ t, t < d.size → wr.cell? ⟨g, off + t, none⟩ = some (.int .u32 (G t)) := fun t ht => by
                  rw [hG]; exact HRx.out.cell t (by omega)
                have hfw : ∀ t, t < d.size → wr.frozen? ⟨g, off + t, none⟩ = false := fun t _ => HRx.out.frozen t
                have HG : Hid (∀ t, G t = dl[t]!) := Lib.hid hG
                clear hG
                by_cases hxj : i4 ≤ x
                · go_wp2_with fail
                  go_quiet (first | (go_at_call 115; refine Calls.quiet_of_same (less_any _ _ _)))
                  go_wp2_with fail
                  · have hl : ltInt (G x) (G a) = false := by
                      have : (!ltInt (G x) (G a)) = true := by assumption
                      simpa using this
                    rw [HG.out, HG.out] at hl
                    go_roundw
                    case rel => exact ⟨x - 1, by first | rfl | go_num | (congr 1 <;> omega), by omega, by omega, HRx, Lib.hid (only_drewN HGx.out nq), Lib.hid (by rw [← HSx.out]; exact (dn_on (by omega) (by omega) (by simp [hl])).symm)⟩
                    case measure => simp [intOf] <;> omega
                  · have hl : ltInt (G x) (G a) = true := by
                      have : (!ltInt (G x) (G a)) = false := by assumption
                      simpa using this
                    rw [HG.out, HG.out] at hl
                    go_meet
                    exact ⟨x, rfl, Lib.hid (by rw [← HSx.out]; exact (dn_off (Or.inr (by simp [hl]))).symm), HRx, Lib.hid (only_drewN HGx.out nq)⟩
                · go_wp2_with fail
                  go_quiet (first | (go_at_call 115; refine Calls.quiet_of_same (less_any _ _ _)))
                  go_wp2_with fail
                  go_meet
                  exact ⟨x, rfl, Lib.hid (by rw [← HSx.out]; exact (dn_off (Or.inl (by omega))).symm), HRx, Lib.hid (only_drewN HGx.out nq)⟩
            case rest =>
              obtain ⟨j4, rfl, HJ4, HRl22, HGl22⟩ := hcut
              obtain ⟨r1, r2, r3, r4, r5⟩ := two_scans (fun x => ltInt x dl[a]!) (fun x => !ltInt x dl[a]!) (fun x => rfl) dl i j i4 j4 (by omega) hij HI4.out HJ4.out
              have hO := HO.out
              rw [partLoop_eq, ← HI4.out, ← HJ4.out] at hO
              clear HRl2 HGl2
              obtain ⟨G, hG⟩ : ∃ G : Nat → Int, ∀ t, G t = dl[t]! := ⟨fun t => dl[t]!, fun _ => rfl⟩
              have hcw : ∀ t, t < d.size → wc.cell? ⟨g, off + t, none⟩ = some (.int .u32 (G t)) := fun t ht => by
                rw [hG]; exact HRl22.out.cell t (by omega)
              have hfw : ∀ t, t < d.size → wc.frozen? ⟨g, off + t, none⟩ = false := fun t _ => HRl22.out.frozen t
              have HG : Hid (∀ t, G t = dl[t]!) := Lib.hid hG
              clear hG
              by_cases hgt : (j4 : Int) < (i4 : Int)
              · rw [if_pos (by omega)] at hO
                have HOO := Lib.hid hO
                clear hO
                rcases Nat.eq_or_lt_of_le (show a ≤ j4 by omega) with hja | hja
                · subst hja
                  go_wp2_with fail
                  go_region
                  have hsw := swap_drew HRl22.out HGl22.out a a (by omega) (by omega) (HG.out a) (HG.out a)
                  go_wp2
                  go_ret2
                  rw [HFF.out, ← HOO.out]
                  exact ⟨rfl, hsw.1, hsw.2⟩
                · have hne2 : ¬ a = j4 := by omega
                  have hne3 : ¬ j4 = a := by omega
                  go_wp2_with fail
                  go_region
                  have hsw := swap_drew HRl22.out HGl22.out j4 a (by omega) (by omega) (HG.out a) (HG.out j4)
                  go_wp2
                  go_ret2
                  rw [HFF.out, ← HOO.out]
                  exact ⟨rfl, hsw.1, hsw.2⟩
              · rw [if_neg (by omega)] at hO
                have hlt2 : i4 < j4 := r5 (by omega)
                have hne2 : ¬ j4 = i4 := by omega
                have HOO := Lib.hid hO
                clear hO
                go_wp2_with fail
                go_region
                have hsw := swap_drew HRl22.out HGl22.out i4 j4 (by omega) (by omega) (HG.out j4) (HG.out i4)
                have HS1 := Lib.hid hsw.1
                have HS2 := Lib.hid hsw.2
                clear hsw
                go_wp2
                go_roundw
                case rel => exact ⟨i4 + 1, j4 - 1, swp dl i4 j4, by go_num, by congr 1; omega, by omega, by omega, by omega, by rw [size_swp]; exact hsk, HS1, HS2, HOO⟩
                case measure => simp [intOf] <;> omega
end Go.Proofs.YtgdbhmlmioihpaaGreatDoor
end

/- The library's sort at numbers of 32 bits: which pivot is chosen. -/
section
set_option linter.unusedVariables false
namespace Go.Proofs.YtgdbhmlmioihpaaGreatDoor
open Go.RowKit Go.Sort

/-- A counter of the call's own. -/
def Cnt (w : World) (sp : Nat) : Prop := ∃ v : Int, Blk w sp 3 [.int .i64 v]

set_option maxHeartbeats 2000000 in
set_option maxRecDepth 100000 in
theorem order2_any (P R : List Value) (g off cap a b sp : Nat) (d : Array Int) (w : World) (hH : Row P R w g off d) (ha : a < d.size) (hb : b < d.size) (hsz : d.size < 1099511627776) (hne : sp ≠ g) (hc : Cnt w sp) :
    Calls Tryz.prog 144 #[.slice (some ⟨g, off, none⟩) d.size cap, .int .i64 a, .int .i64 b, .pointer (some ⟨sp, 0, none⟩)] w fun e w' =>
      (∃ x y : Nat, e = .returned (.tuple #[.int .i64 x, .int .i64 y]) ∧ ((x = a ∧ y = b) ∨ (x = b ∧ y = a))) ∧ Row P R w' g off d ∧ Cnt w' sp ∧ w.grownBy w' (some sp) := by
  obtain ⟨v, hv⟩ := hc
  have HR := Lib.hid hH
  have HV := Lib.hid hv
  obtain ⟨G, hG⟩ : ∃ G : Nat → Int, ∀ t, G t = d[t]! := ⟨fun t => d[t]!, fun _ => rfl⟩
  have hcw : ∀ t, t < d.size → w.cell? ⟨g, off + t, none⟩ = some (.int .u32 (G t)) := fun t ht => by
    rw [hG]; exact HR.out.cell t (by omega)
  have hcs : w.cell? ⟨sp, 0, none⟩ = some (.int .i64 v) := hv.cell 0
  have hfs : w.frozen? ⟨sp, 0, none⟩ = false := hv.frozen 0
  clear hG hH hv
  go_enter Tryz.func144, Tryz.ntmps144
  go_wp2_with fail
  go_quiet (first | (go_at_call 115; refine Calls.quiet_of_same (less_any _ _ _)))
  have hcs2 : (w.drewN nq).cell? ⟨sp, 0, none⟩ = some (.int .i64 v) := hcs
  have hfs2 : (w.drewN nq).frozen? ⟨sp, 0, none⟩ = false := hfs
  have HR2 : Hid (Row P R (w.drewN nq) g off d) := HR
  have HV2 : Hid (Blk (w.drewN nq) sp 3 [.int .i64 v]) := HV
  have HG2 : Hid (w.grownBy (w.drewN nq) (some sp)) := Lib.hid (only_drewN (World.grownBy.refl w _) nq)
  clear hcw hcs hfs HR HV
  generalize w.drewN nq = w2 at hcs2 hfs2 HR2 HV2 HG2 ⊢
  go_wp2
  · go_ret2
    refine ⟨⟨b, a, rfl, Or.inr ⟨rfl, rfl⟩⟩, ?_, ⟨_, HV2.out.set_ 0 _⟩, only_setCell HG2.out _ _⟩
    exact ⟨HR2.out.1, (Below.heap_setCell _ _ _ _ (Ne.symm hne)).trans HR2.out.2⟩
  · go_ret2
    exact ⟨⟨a, b, rfl, Or.inl ⟨rfl, rfl⟩⟩, HR2.out, ⟨v, HV2.out⟩, HG2.out⟩

set_option maxHeartbeats 2000000 in
set_option maxRecDepth 100000 in
theorem median_any (P R : List Value) (g off cap a b c sp : Nat) (d : Array Int) (w : World) (hH : Row P R w g off d) (ha : a < d.size) (hb : b < d.size) (hc' : c < d.size) (hsz : d.size < 1099511627776) (hne : sp ≠ g) (hc : Cnt w sp) :
    Calls Tryz.prog 142 #[.slice (some ⟨g, off, none⟩) d.size cap, .int .i64 a, .int .i64 b, .int .i64 c, .pointer (some ⟨sp, 0, none⟩)] w fun e w' =>
      (∃ x : Nat, e = .returned (.int .i64 x) ∧ (x = a ∨ x = b ∨ x = c)) ∧ Row P R w' g off d ∧ Cnt w' sp ∧ w.grownBy w' (some sp) := by
  have HR := Lib.hid hH
  have HC := Lib.hid hc
  clear hH hc
  go_enter Tryz.func142, Tryz.ntmps142
  go_wp2_with fail
  refine (order2_any P R g off cap a b sp d w HR.out ha hb hsz hne HC.out).mono ?_; rintro e w1 ⟨⟨a1, b1, rfl, h1⟩, r1, c1, g1⟩
  have HR1 := Lib.hid r1
  have HC1 := Lib.hid c1
  have HG1 := Lib.hid g1
  have H1 := Lib.hid h1
  clear r1 c1 g1 HR HC h1
  go_wp2_with fail
  refine (order2_any P R g off cap b1 c sp d w1 HR1.out (by have := H1.out; omega) hc' hsz hne HC1.out).mono ?_; rintro e w2 ⟨⟨b2, c2, rfl, h2⟩, r2, cc2, g2⟩
  have HR2 := Lib.hid r2
  have HC2 := Lib.hid cc2
  have HG2 := Lib.hid (only_trans HG1.out g2)
  have H2 := Lib.hid h2
  clear r2 cc2 g2 HR1 HC1 HG1 h2
  go_wp2_with fail
  refine (order2_any P R g off cap a1 b2 sp d w2 HR2.out (by have := H1.out; omega) (by have := H1.out; have := H2.out; omega) hsz hne HC2.out).mono ?_; rintro e w3 ⟨⟨a3, b3, rfl, h3⟩, r3, cc3, g3⟩
  go_wp2
  go_ret
  exact ⟨⟨b3, rfl, by have := H1.out; have := H2.out; omega⟩, r3, cc3, only_trans HG2.out g3⟩

set_option maxHeartbeats 2000000 in
set_option maxRecDepth 100000 in
theorem medAdj_any (P R : List Value) (g off cap a sp : Nat) (d : Array Int) (w : World) (hH : Row P R w g off d) (ha : 1 ≤ a) (hb : a + 1 < d.size) (hsz : d.size < 1099511627776) (hne : sp ≠ g) (hc : Cnt w sp) :
    Calls Tryz.prog 141 #[.slice (some ⟨g, off, none⟩) d.size cap, .int .i64 a, .pointer (some ⟨sp, 0, none⟩)] w fun e w' =>
      (∃ x : Nat, e = .returned (.int .i64 x) ∧ a ≤ x + 1 ∧ x ≤ a + 1) ∧ Row P R w' g off d ∧ Cnt w' sp ∧ w.grownBy w' (some sp) := by
  have HM := Lib.hid (median_any P R g off cap (a - 1) a (a + 1) sp d w hH (by omega) (by omega) hb hsz hne hc)
  rw [show ((a - 1 : Nat) : Int) = (a : Int) - 1 by omega, show ((a + 1 : Nat) : Int) = (a : Int) + 1 by omega] at HM
  clear hH hc
  go_enter Tryz.func141, Tryz.ntmps141
  go_wp2_with fail
  refine HM.out.mono ?_; rintro e w1 ⟨⟨x, rfl, hx⟩, r1, c1, g1⟩
  go_wp2
  go_ret
  exact ⟨⟨x, rfl, by omega, by omega⟩, r1, c1, g1⟩

set_option maxHeartbeats 2000000 in
set_option maxRecDepth 100000 in
theorem pivot_any (P R : List Value) (g off cap a b : Nat) (d : Array Int) (w : World) (hH : Row P R w g off d) (hab : a + 12 < b) (hb : b ≤ d.size) (hsz : d.size < 1099511627776) :
    Calls Tryz.prog 112 #[.slice (some ⟨g, off, none⟩) d.size cap, .int .i64 a, .int .i64 b] w fun e w' =>
      (∃ (x : Nat) (h : Int), e = .returned (.tuple #[.int .i64 x, .int .i64 h]) ∧ a < x ∧ x + 1 < b) ∧ Below w.heap.size w w' := by
  obtain ⟨l, hl⟩ : ∃ l, l = b - a := ⟨_, rfl⟩
  obtain ⟨q, hq⟩ : ∃ q, q = l / 4 := ⟨_, rfl⟩
  have e1 : (b : Int) - (a : Int) = (l : Int) := by omega
  have e2 : (l : Int) / 4 = (q : Int) := by omega
  have e3 : (l : Int).tdiv 4 = (q : Int) := by rw [Int.tdiv_eq_ediv_of_nonneg (by omega)]; exact e2
  obtain ⟨i, hi⟩ : ∃ i, i = a + q := ⟨_, rfl⟩
  obtain ⟨j, hj⟩ : ∃ j, j = a + q * 2 := ⟨_, rfl⟩
  obtain ⟨k, hk⟩ : ∃ k, k = a + q * 3 := ⟨_, rfl⟩
  have e4 : (a : Int) + (q : Int) = (i : Int) := by omega
  have e5 : (a : Int) + (q : Int) * 2 = (j : Int) := by omega
  have e6 : (a : Int) + (q : Int) * 3 = (k : Int) := by omega
  have HA : Hid (l = b - a ∧ q = l / 4 ∧ i = a + q ∧ j = a + q * 2 ∧ k = a + q * 3) := Lib.hid ⟨hl, hq, hi, hj, hk⟩
  have l8 : (8 : Int) ≤ (l : Int) := by omega
  have HR := Lib.hid (hH.below ((Below.refl _ w).alloc (Nat.le_refl _) (.cells #[.int .i64 0] 3)) hH.lt)
  have HC : Hid (Cnt (w.alloc (.cells #[.int .i64 0] 3)) w.heap.size) := Lib.hid ⟨0, Blk.new w 3 [.int .i64 0]⟩
  have HB : Hid (Below w.heap.size w (w.alloc (.cells #[.int .i64 0] 3))) := Lib.hid ((Below.refl _ w).alloc (Nat.le_refl _) _)
  have hne : w.heap.size ≠ g := by have := hH.lt; omega
  clear hl hq hi hj hk hH
  obtain ⟨sp, hsp⟩ : ∃ sp, sp = w.heap.size := ⟨_, rfl⟩
  have HSP := Lib.hid hsp
  go_enter Tryz.func112, Tryz.ntmps112
  by_cases l50 : (50 : Int) ≤ (l : Int)
  · go_wp2_with fail
    refine (medAdj_any P R g off cap i w.heap.size d _ HR.out (by have := HA.out; omega) (by have := HA.out; omega) hsz hne HC.out).mono ?_; rintro e w1 ⟨⟨x1, rfl, hx1⟩, r1, c1, g1⟩
    have HR1 := Lib.hid r1
    have HC1 := Lib.hid c1
    have HB1 : Hid (Below w.heap.size w w1) := Lib.hid (HB.out.grown g1 HB.out.size (fun k hk => by cases hk; exact Nat.le_refl _))
    have HX1 := Lib.hid hx1
    clear r1 c1 g1 hx1
    go_wp2_with fail
    refine (medAdj_any P R g off cap j w.heap.size d _ HR1.out (by have := HA.out; omega) (by have := HA.out; omega) hsz hne HC1.out).mono ?_; rintro e w2 ⟨⟨x2, rfl, hx2⟩, r2, c2, g2⟩
    have HR2 := Lib.hid r2
    have HC2 := Lib.hid c2
    have HB2 : Hid (Below w.heap.size w w2) := Lib.hid (HB1.out.grown g2 HB1.out.size (fun k hk => by cases hk; exact Nat.le_refl _))
    have HX2 := Lib.hid hx2
    clear r2 c2 g2 hx2
    go_wp2_with fail
    refine (medAdj_any P R g off cap k w.heap.size d _ HR2.out (by have := HA.out; omega) (by have := HA.out; omega) hsz hne HC2.out).mono ?_; rintro e w3 ⟨⟨x3, rfl, hx3⟩, r3, c3, g3⟩
    have HR3 := Lib.hid r3
    have HC3 := Lib.hid c3
    have HB3 : Hid (Below w.heap.size w w3) := Lib.hid (HB2.out.grown g3 HB2.out.size (fun k hk => by cases hk; exact Nat.le_refl _))
    have HX3 := Lib.hid hx3
    clear r3 c3 g3 hx3
    go_wp2_with fail
    refine (median_any P R g off cap x1 x2 x3 w.heap.size d _ HR3.out (by have := HA.out; have := HX1.out; omega) (by have := HA.out; have := HX2.out; omega) (by have := HA.out; have := HX3.out; omega) hsz hne HC3.out).mono ?_; rintro e w4 ⟨⟨x4, rfl, hx4⟩, r4, c4, g4⟩
    obtain ⟨v, hv⟩ := c4
    have hcs : w4.cell? ⟨w.heap.size, 0, none⟩ = some (.int .i64 v) := hv.cell 0
    have HBF : Hid (Below w.heap.size w w4) := Lib.hid (HB3.out.grown g4 HB3.out.size (fun k hk => by cases hk; exact Nat.le_refl _))
    have HX : Hid (a < x4 ∧ x4 + 1 < b) := Lib.hid (by have := HA.out; have := HX1.out; have := HX2.out; have := HX3.out; omega)
    clear hv r4 g4
    by_cases v0 : (v == 0) = true
    · go_wp2
      go_ret2
      exact ⟨⟨x4, _, rfl, HX.out.1, HX.out.2⟩, HBF.out⟩
    · have v0' : (v == 0) = false := by simpa using v0
      clear v0
      by_cases v1 : (v == 12) = true
      · go_wp2
        go_ret2
        exact ⟨⟨x4, _, rfl, HX.out.1, HX.out.2⟩, HBF.out⟩
      · have v1' : (v == 12) = false := by simpa using v1
        clear v1
        go_wp2
        go_ret2
        exact ⟨⟨x4, _, rfl, HX.out.1, HX.out.2⟩, HBF.out⟩
  · go_wp2_with fail
    refine (median_any P R g off cap i j k w.heap.size d _ HR.out (by have := HA.out; omega) (by have := HA.out; omega) (by have := HA.out; omega) hsz hne HC.out).mono ?_; rintro e w4 ⟨⟨x4, rfl, hx4⟩, r4, c4, g4⟩
    obtain ⟨v, hv⟩ := c4
    have hcs : w4.cell? ⟨w.heap.size, 0, none⟩ = some (.int .i64 v) := hv.cell 0
    have HBF : Hid (Below w.heap.size w w4) := Lib.hid (HB.out.grown g4 HB.out.size (fun k hk => by cases hk; exact Nat.le_refl _))
    have HX : Hid (a < x4 ∧ x4 + 1 < b) := Lib.hid (by have := HA.out; omega)
    clear hv r4 g4
    by_cases v0 : (v == 0) = true
    · go_wp2
      go_ret2
      exact ⟨⟨x4, _, rfl, HX.out.1, HX.out.2⟩, HBF.out⟩
    · have v0' : (v == 0) = false := by simpa using v0
      clear v0
      by_cases v1 : (v == 12) = true
      · go_wp2
        go_ret2
        exact ⟨⟨x4, _, rfl, HX.out.1, HX.out.2⟩, HBF.out⟩
      · have v1' : (v == 12) = false := by simpa using v1
        clear v1
        go_wp2
        go_ret2
        exact ⟨⟨x4, _, rfl, HX.out.1, HX.out.2⟩, HBF.out⟩
end Go.Proofs.YtgdbhmlmioihpaaGreatDoor
end
