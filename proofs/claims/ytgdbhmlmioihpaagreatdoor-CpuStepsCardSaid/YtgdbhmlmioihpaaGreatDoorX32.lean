/- Some texts of one proof, one behind the other; each has its own head below. -/
import Derived.Test.YtgdbhmlmioihpaaGreatDoorX31
import Derived.Deep.DeepCutAuto
import Derived.Deep.CutBlock
import Derived.Sort.AssemblyPlain
/- The library's sort at numbers of 32 bits: partialInsertionSort. -/
section
set_option linter.unusedVariables false
namespace Go.Proofs.YtgdbhmlmioihpaaGreatDoor
open Go.RowKit Go.Sort

section
variable (lt : Int → Int → Bool)
theorem scan_go {b i : Nat} {d : Array Int} (h : i < b) (hl : lt d[i]! d[i - 1]! = false) : scanSorted lt d b i = scanSorted lt d b (i + 1) := by
  rw [scanSorted, if_pos (by simp [h, hl])]
theorem scan_less {b i : Nat} {d : Array Int} (hl : lt d[i]! d[i - 1]! = true) : scanSorted lt d b i = i := by
  rw [scanSorted, if_neg (by simp [hl])]
theorem scan_end {b i : Nat} {d : Array Int} (h : ¬ i < b) : scanSorted lt d b i = i := by
  rw [scanSorted, if_neg (by simp [h])]
theorem down_stop {j : Nat} {d : Array Int} (h : j = 0 ∨ lt d[j]! d[j - 1]! = false) : shiftDown lt j d = d := by
  cases j with
  | zero => rfl
  | succ k =>
    rcases h with h | h
    · cases h
    · simp only [Nat.add_sub_cancel] at h
      rw [shiftDown]; simp [h]
theorem down_go {j : Nat} {d : Array Int} (h : 1 ≤ j) (hl : lt d[j]! d[j - 1]! = true) : shiftDown lt j d = shiftDown lt (j - 1) (swp d j (j - 1)) := by
  obtain ⟨k, rfl⟩ : ∃ k, j = k + 1 := ⟨j - 1, by omega⟩
  simp only [Nat.add_sub_cancel] at hl ⊢
  rw [shiftDown]; simp [hl]
theorem up_stop {b j : Nat} {d : Array Int} (h : ¬ j < b ∨ lt d[j]! d[j - 1]! = false) : shiftUp lt b j d = d := by
  rw [shiftUp]
  rcases h with h | h
  · rw [if_neg h]
  · simp [h]
theorem up_go {b j : Nat} {d : Array Int} (h : j < b) (hl : lt d[j]! d[j - 1]! = true) : shiftUp lt b j d = shiftUp lt b (j + 1) (swp d j (j - 1)) := by
  rw [shiftUp, if_pos h]; simp [hl]
theorem down_size : ∀ (j : Nat) (d : Array Int), (shiftDown lt j d).size = d.size
  | 0, d => rfl
  | j + 1, d => by
    rw [shiftDown]
    split
    · rfl
    · rw [down_size j, size_swp]
theorem up_size (b j : Nat) (d : Array Int) : (shiftUp lt b j d).size = d.size := by
  fun_induction shiftUp lt b j d <;> simp_all [size_swp]
theorem fixDown_size (a i : Nat) (d : Array Int) : (fixDown lt a i d).size = d.size := by
  unfold fixDown; split
  · exact down_size lt _ _
  · rfl
theorem fixUp_size (b i : Nat) (d : Array Int) : (fixUp lt b i d).size = d.size := by
  unfold fixUp; split
  · exact up_size lt _ _ _
  · rfl
end

set_option maxHeartbeats 2000000 in
set_option maxRecDepth 1000000 in
theorem partialIns_any (P R : List Value) (g off cap a b : Nat) (d : Array Int) (w : World) (hH : Row P R w g off d) (hab : a < b) (hb : b ≤ d.size) (hsz : d.size < 1099511627776) :
    Calls Tryz.prog 114 #[.slice (some ⟨g, off, none⟩) d.size cap, .int .i64 a, .int .i64 b] w fun e w' =>
      e = .returned (.bool (partialInsertionSort ltInt d a b).2) ∧ Row P R w' g off (partialInsertionSort ltInt d a b).1 ∧ w.grownBy w' (some g) := by
  have HR := Lib.hid hH
  clear hH
  obtain ⟨F, hF⟩ : ∃ F, F = partialIns ltInt a b 5 (a + 1) d := ⟨_, rfl⟩
  have hFF : partialInsertionSort ltInt d a b = F := by rw [hF]; rfl
  rw [hFF]
  have HF := Lib.hid hF
  clear hF hFF
  go_enter Tryz.func114, Tryz.ntmps114
  go_wp2
  go_loopw [7, 8] (fun s7 s8 wr => ∃ (i s : Nat) (dk : Array Int), s7 = .int .i64 i ∧ s8 = .int .i64 (5 - (s : Int)) ∧ s ≤ 5 ∧ a < i ∧ i ≤ b ∧ dk.size = d.size ∧ Hid (Row P R wr g off dk) ∧ Hid (w.grownBy wr (some g)) ∧
      Hid (partialIns ltInt a b s i dk = F)) (fun _ s8 _ => (5 - intOf s8).toNat)
  case atStart => exact ⟨a + 1, 5, d, by go_num, rfl, by omega, by omega, by omega, rfl, HR, Lib.hid (World.grownBy.refl w _), Lib.hid HF.out.symm⟩
  case round =>
    obtain ⟨i, s, dk, rfl, rfl, hs5, hai, hib, hsk, HRk, HGk, HO⟩ := hrel
    cases s with
    | zero =>
      go_wp2
      go_ret
      have h := HO.out
      rw [partialIns] at h
      rw [← h]
      exact ⟨rfl, HRk.out, HGk.out⟩
    | succ s =>
      have hlt5 : (5 : Int) - ((s + 1 : Nat) : Int) < 5 := by omega
      go_wp2
      go_loopw [7] (fun s7 wr2 => ∃ (i' : Nat), s7 = .int .i64 i' ∧ i ≤ i' ∧ i' ≤ b ∧ Hid (Row P R wr2 g off dk) ∧ Hid (w.grownBy wr2 (some g)) ∧
          Hid (scanSorted ltInt dk b i' = scanSorted ltInt dk b i)) (fun s7 _ => ((b : Int) - intOf s7).toNat)
      case atStart => exact ⟨i, rfl, Nat.le_refl _, hib, HRk, HGk, Lib.hid rfl⟩
      case round =>
        obtain ⟨i', rfl, hii, hib', HRj, HGj, HSc⟩ := hrel
        obtain ⟨G, hG⟩ : ∃ G : Nat → Int, ∀ t, G t = dk[t]! := ⟨fun t => dk[t]!, fun _ => rfl⟩
        have hcw : ∀ t, t < d.size → wr.cell? ⟨g, off + t, none⟩ = some (.int .u32 (G t)) := fun t ht => by
          rw [hG]; exact HRj.out.cell t (by omega)
        have hfw : ∀ t, t < d.size → wr.frozen? ⟨g, off + t, none⟩ = false := fun t _ => HRj.out.frozen t
        have HG : Hid (∀ t, G t = dk[t]!) := Lib.hid hG
        clear hG
        by_cases hlt : (i' : Int) < (b : Int)
        · have heqb : ((i' : Int) == (b : Int)) = false := by rw [beq_eq_false_iff_ne]; omega
          go_wp2_with fail
          go_quiet (first | (go_at_call 115; refine Calls.quiet_of_same (less_any _ _ _)))
          go_wp2_with fail
          · have hl : ltInt (G i') (G (i' - 1)) = false := by
              have : (!ltInt (G i') (G (i' - 1))) = true := by assumption
              simpa using this
            rw [HG.out, HG.out] at hl
            go_roundw
            case rel => exact ⟨i' + 1, by go_num, by omega, by omega, HRj, Lib.hid (only_drewN HGj.out nq), Lib.hid (by rw [← HSc.out, scan_go ltInt (by omega) hl])⟩
            case measure => simp [intOf]; omega
          · have hl : ltInt (G i') (G (i' - 1)) = true := by
              have : (!ltInt (G i') (G (i' - 1))) = false := by assumption
              simpa using this
            rw [HG.out, HG.out] at hl
            have hsc : scanSorted ltInt dk b i = i' := by rw [← HSc.out]; exact scan_less ltInt hl
            have hO := HO.out
            rw [partialIns_succ, hsc, if_neg (by omega)] at hO
            have h50 : (b : Int) - (a : Int) < 50 := by omega
            rw [if_pos (by omega)] at hO
            go_ret
            rw [← hO]
            exact ⟨rfl, HRj.out, only_drewN HGj.out nq⟩
          · have hl : ltInt (G i') (G (i' - 1)) = true := by
              have : (!ltInt (G i') (G (i' - 1))) = false := by assumption
              simpa using this
            rw [HG.out, HG.out] at hl
            have hsc : scanSorted ltInt dk b i = i' := by rw [← HSc.out]; exact scan_less ltInt hl
            have hO := HO.out
            rw [partialIns_succ, hsc, if_neg (by omega)] at hO
            have h50 : ¬ (b : Int) - (a : Int) < 50 := by omega
            rw [if_neg (by omega)] at hO
            have HOO := Lib.hid hO
            clear hO hsc HO HSc
            have hcw2 : ∀ t, t < d.size → (wr.drewN nq).cell? ⟨g, off + t, none⟩ = some (.int .u32 (G t)) := hcw
            have hfw2 : ∀ t, t < d.size → (wr.drewN nq).frozen? ⟨g, off + t, none⟩ = false := hfw
            have HR2 : Hid (Row P R (wr.drewN nq) g off dk) := HRj
            have HG2 : Hid (w.grownBy (wr.drewN nq) (some g)) := Lib.hid (only_drewN HGj.out nq)
            clear hcw hfw HRj HGj HRk HGk
            generalize wr.drewN nq = wr2 at hcw2 hfw2 HR2 HG2 ⊢
            go_region
            have hsw := swap_drew HR2.out HG2.out i' (i' - 1) (by omega) (by omega) (HG.out (i' - 1)) (HG.out i')
            have HS1 := Lib.hid hsw.1
            have HS2 := Lib.hid hsw.2
            clear hsw hcw2 hfw2 HR2 HG2
            generalize ((wr2.setCell ⟨g, off + i', none⟩ (.int .u32 (G (i' - 1)))).setCell ⟨g, off + (i' - 1), none⟩ (.int .u32 (G i'))).drew = wr3 at HS1 HS2 ⊢
            obtain ⟨dj, hdj⟩ : ∃ dj, dj = swp dk i' (i' - 1) := ⟨_, rfl⟩
            have hsj : dj.size = d.size := by rw [hdj, size_swp]; exact hsk
            rw [← hdj] at HS1 HOO
            go_upto_if 61 with (fail)
            go_cut [] (fun wx => Hid (Row P R wx g off (fixDown ltInt a i' dj)) ∧ Hid (w.grownBy wx (some g)))
            case first =>
              have HA1 := HS1
              have HA2 := HS2
              have HSZ : Hid (dj.size = d.size) := Lib.hid hsj
              clear HS1 HS2 hdj hsj HOO
              by_cases h2 : (2 : Int) ≤ (i' : Int) - (a : Int)
              · go_wp2_with fail
                go_loopw [9] (fun s9 wr4 => ∃ (j : Nat) (dl : Array Int), s9 = .int .i64 j ∧ j < i' ∧ dl.size = d.size ∧ Hid (Row P R wr4 g off dl) ∧ Hid (w.grownBy wr4 (some g)) ∧
                    Hid (shiftDown ltInt j dl = shiftDown ltInt (i' - 1) dj)) (fun s9 _ => (intOf s9).toNat)
                case atStart => exact ⟨i' - 1, dj, by congr 1; omega, by omega, HSZ.out, HA1, HA2, Lib.hid rfl⟩
                case round =>
                  obtain ⟨j, dl, rfl, hji, hsl, HRl, HGl, HOl⟩ := hrel
                  obtain ⟨G, hG⟩ : ∃ G : Nat → Int, ∀ t, G t = dl[t]! := ⟨fun t => dl[t]!, fun _ => rfl⟩
                  have hcw : ∀ t, t < d.size → wr.cell? ⟨g, off + t, none⟩ = some (.int .u32 (G t)) := fun t ht => by
                    rw [hG]; exact HRl.out.cell t (by omega)
                  have hfw : ∀ t, t < d.size → wr.frozen? ⟨g, off + t, none⟩ = false := fun t _ => HRl.out.frozen t
                  have HG : Hid (∀ t, G t = dl[t]!) := Lib.hid hG
                  clear hG
                  by_cases hj1 : (1 : Int) ≤ (j : Int)
                  · go_wp2_with fail
                    go_quiet (first | (go_at_call 115; refine Calls.quiet_of_same (less_any _ _ _)))
                    go_wp2_with fail
                    · have hl : ltInt (G j) (G (j - 1)) = false := by
                        have : (!ltInt (G j) (G (j - 1))) = true := by assumption
                        simpa using this
                      rw [HG.out, HG.out] at hl
                      go_meet
                      exact ⟨Lib.hid (by unfold fixDown; rw [if_pos (by omega : i' - a ≥ 2), ← HOl.out, down_stop ltInt (Or.inr hl)]; exact HRl.out), Lib.hid (only_drewN HGl.out nq)⟩
                    · have hl : ltInt (G j) (G (j - 1)) = true := by
                        have : (!ltInt (G j) (G (j - 1))) = false := by assumption
                        simpa using this
                      rw [HG.out, HG.out] at hl
                      have hcw2 : ∀ t, t < d.size → (wr.drewN nq).cell? ⟨g, off + t, none⟩ = some (.int .u32 (G t)) := hcw
                      have hfw2 : ∀ t, t < d.size → (wr.drewN nq).frozen? ⟨g, off + t, none⟩ = false := hfw
                      have HR2 : Hid (Row P R (wr.drewN nq) g off dl) := HRl
                      have HG2 : Hid (w.grownBy (wr.drewN nq) (some g)) := Lib.hid (only_drewN HGl.out nq)
                      clear hcw hfw HRl HGl
                      generalize wr.drewN nq = wr5 at hcw2 hfw2 HR2 HG2 ⊢
                      go_region
                      all_goals go_wp2
                      go_roundw
                      case rel =>
                        have hs := swap_drew HR2.out HG2.out j (j - 1) (by omega) (by omega) (HG.out (j - 1)) (HG.out j)
                        exact ⟨j - 1, swp dl j (j - 1), by congr 1; omega, by omega, by rw [size_swp]; exact hsl, Lib.hid hs.1, Lib.hid hs.2, Lib.hid (by rw [← HOl.out, down_go ltInt (by omega) hl])⟩
                      case measure => simp [intOf]; omega
                  · go_wp2_with fail
                    go_meet
                    exact ⟨Lib.hid (by unfold fixDown; rw [if_pos (by omega : i' - a ≥ 2), ← HOl.out, down_stop ltInt (Or.inl (by omega))]; exact HRl.out), HGl⟩
              · go_wp2_with fail
                go_meet
                exact ⟨Lib.hid (by unfold fixDown; rw [if_neg (by omega : ¬ i' - a ≥ 2)]; exact HA1.out), HA2⟩
            case rest =>
              obtain ⟨HB1, HB2⟩ := hcut
              clear HS1 HS2
              obtain ⟨D0, hD0⟩ : ∃ D0, D0 = fixDown ltInt a i' dj := ⟨_, rfl⟩
              have HSZ : Hid (D0.size = d.size) := Lib.hid (by rw [hD0, fixDown_size]; exact hsj)
              rw [← hD0] at HB1 HOO
              clear hD0 hdj hsj
              go_upto_if 98 with (fail)
              have HA1 := HB1
              have HA2 := HB2
              clear HB1 HB2
              by_cases h2 : (2 : Int) ≤ (b : Int) - (i' : Int)
              · go_wp2_with fail
                go_loopw [10] (fun s9 wr4 => ∃ (j : Nat) (dl : Array Int), s9 = .int .i64 j ∧ i' < j ∧ j ≤ b ∧ dl.size = d.size ∧ Hid (Row P R wr4 g off dl) ∧ Hid (w.grownBy wr4 (some g)) ∧
                    Hid (shiftUp ltInt b j dl = shiftUp ltInt b (i' + 1) D0)) (fun s9 _ => ((b : Int) - intOf s9).toNat)
                case atStart => exact ⟨i' + 1, D0, by go_num, by omega, by omega, HSZ.out, HA1, HA2, Lib.hid rfl⟩
                case round =>
                  obtain ⟨j, dl, rfl, hji, hjb, hsl, HRl, HGl, HOl⟩ := hrel
                  obtain ⟨G, hG⟩ : ∃ G : Nat → Int, ∀ t, G t = dl[t]! := ⟨fun t => dl[t]!, fun _ => rfl⟩
                  have hcw : ∀ t, t < d.size → wr.cell? ⟨g, off + t, none⟩ = some (.int .u32 (G t)) := fun t ht => by
                    rw [hG]; exact HRl.out.cell t (by omega)
                  have hfw : ∀ t, t < d.size → wr.frozen? ⟨g, off + t, none⟩ = false := fun t _ => HRl.out.frozen t
                  have HG : Hid (∀ t, G t = dl[t]!) := Lib.hid hG
                  clear hG
                  by_cases hj1 : (j : Int) < (b : Int)
                  · go_wp2_with fail
                    go_quiet (first | (go_at_call 115; refine Calls.quiet_of_same (less_any _ _ _)))
                    go_wp2_with fail
                    · have hl : ltInt (G j) (G (j - 1)) = false := by
                        have : (!ltInt (G j) (G (j - 1))) = true := by assumption
                        simpa using this
                      rw [HG.out, HG.out] at hl
                      go_roundw
                      case rel => exact ⟨i', s, fixUp ltInt b i' D0, rfl, by congr 1; omega, by omega, by omega, by omega, by rw [fixUp_size]; exact HSZ.out, Lib.hid (by unfold fixUp; rw [if_pos (by omega : b - i' ≥ 2), ← HOl.out, up_stop ltInt (Or.inr hl)]; exact HRl.out), Lib.hid (only_drewN HGl.out nq), HOO⟩
                      case measure => simp [intOf]; omega
                    · have hl : ltInt (G j) (G (j - 1)) = true := by
                        have : (!ltInt (G j) (G (j - 1))) = false := by assumption
                        simpa using this
                      rw [HG.out, HG.out] at hl
                      have hcw2 : ∀ t, t < d.size → (wr.drewN nq).cell? ⟨g, off + t, none⟩ = some (.int .u32 (G t)) := hcw
                      have hfw2 : ∀ t, t < d.size → (wr.drewN nq).frozen? ⟨g, off + t, none⟩ = false := hfw
                      have HR2 : Hid (Row P R (wr.drewN nq) g off dl) := HRl
                      have HG2 : Hid (w.grownBy (wr.drewN nq) (some g)) := Lib.hid (only_drewN HGl.out nq)
                      clear hcw hfw HRl HGl
                      generalize wr.drewN nq = wr5 at hcw2 hfw2 HR2 HG2 ⊢
                      go_region
                      all_goals go_wp2
                      go_roundw
                      case rel =>
                        have hs := swap_drew HR2.out HG2.out j (j - 1) (by omega) (by omega) (HG.out (j - 1)) (HG.out j)
                        exact ⟨j + 1, swp dl j (j - 1), by go_num, by omega, by omega, by rw [size_swp]; exact hsl, Lib.hid hs.1, Lib.hid hs.2, Lib.hid (by rw [← HOl.out, up_go ltInt (by omega) hl])⟩
                      case measure => simp [intOf]; omega
                  · go_wp2_with fail
                    go_roundw
                    case rel => exact ⟨i', s, fixUp ltInt b i' D0, rfl, by congr 1; omega, by omega, by omega, by omega, by rw [fixUp_size]; exact HSZ.out, Lib.hid (by unfold fixUp; rw [if_pos (by omega : b - i' ≥ 2), ← HOl.out, up_stop ltInt (Or.inl (by omega))]; exact HRl.out), HGl, HOO⟩
                    case measure => simp [intOf]; omega
              · go_wp2_with fail
                go_roundw
                case rel => exact ⟨i', s, fixUp ltInt b i' D0, rfl, by congr 1; omega, by omega, by omega, by omega, by rw [fixUp_size]; exact HSZ.out, Lib.hid (by unfold fixUp; rw [if_neg (by omega : ¬ b - i' ≥ 2)]; exact HA1.out), HA2, HOO⟩
                case measure => simp [intOf]; omega
        · obtain rfl : i' = b := by omega
          have hsc : scanSorted ltInt dk i' i = i' := by rw [← HSc.out]; exact scan_end ltInt (by omega)
          have hO := HO.out
          rw [partialIns_succ, if_pos hsc] at hO
          have HOO := Lib.hid hO
          clear hO hsc hlt
          have heqb : ((i' : Int) == (i' : Int)) = true := by simp
          have hltb : decide ((i' : Int) < (i' : Int)) = false := decide_eq_false (by omega)
          go_wp2_with fail
          go_big_quiet (first | (go_at_call 115; refine Calls.quiet_of_same (less_any _ _ _)))
          go_wp2
          go_ret
          rw [← HOO.out]
          exact ⟨rfl, HRj.out, only_drewN HGj.out nq⟩
end Go.Proofs.YtgdbhmlmioihpaaGreatDoor
end

/- The library's sort at numbers of 32 bits: partitionEqual. -/
section
set_option linter.unusedVariables false
namespace Go.Proofs.YtgdbhmlmioihpaaGreatDoor
open Go.RowKit Go.Sort

section
theorem up_on {p : Int → Bool} {d : Array Int} {j i : Nat} (h : i ≤ j) (hp : p d[i]! = true) : scanUp p d j i = scanUp p d j (i + 1) := by
  rw [scanUp, if_pos (by simp [h, hp])]
theorem up_off {p : Int → Bool} {d : Array Int} {j i : Nat} (h : ¬ i ≤ j ∨ p d[i]! = false) : scanUp p d j i = i := by
  rw [scanUp, if_neg (by rcases h with h | h <;> simp [h])]
theorem dn_on {p : Int → Bool} {d : Array Int} {i j : Nat} (h0 : 1 ≤ j) (h : i ≤ j) (hp : p d[j]! = true) : scanDown p d i j = scanDown p d i (j - 1) := by
  obtain ⟨k, rfl⟩ : ∃ k, j = k + 1 := ⟨j - 1, by omega⟩
  rw [scanDown, if_pos (by simp [h, hp])]
  rfl
theorem dn_off {p : Int → Bool} {d : Array Int} {i j : Nat} (h : ¬ i ≤ j ∨ p d[j]! = false) : scanDown p d i j = j := by
  cases j with
  | zero => rfl
  | succ k => rw [scanDown, if_neg (by rcases h with h | h <;> simp [h])]
end

theorem two_scans (p q : Int → Bool) (hq : ∀ x, q x = !p x) (d : Array Int) (i j i2 j2 : Nat) (h1 : 1 ≤ i) (hij : i ≤ j + 1) (e1 : i2 = scanUp p d j i) (e2 : j2 = scanDown q d i2 j) :
    i ≤ i2 ∧ i2 ≤ j + 1 ∧ j2 ≤ j ∧ i2 ≤ j2 + 1 ∧ (¬ i2 > j2 → i2 < j2) := by
  obtain ⟨r1, r2, r3, r4, _, _, r7⟩ := round_facts p q hq d (i - 1) (j + 1) i j (by omega) hij (fun t _ _ => by omega) (fun t _ _ => by omega)
  rw [← e1] at r1 r2 r3 r4 r7
  rw [← e2] at r3 r4 r7
  exact ⟨r1, r2, r3, r4, fun h => (r7 h).2.2⟩

set_option maxHeartbeats 2000000 in
set_option maxRecDepth 1000000 in
theorem parteq_any (P R : List Value) (g off cap a b pv : Nat) (d : Array Int) (w : World) (hH : Row P R w g off d) (hap : a < pv) (hpb : pv < b) (hb : b ≤ d.size) (hsz : d.size < 1099511627776) :
    Calls Tryz.prog 116 #[.slice (some ⟨g, off, none⟩) d.size cap, .int .i64 a, .int .i64 b, .int .i64 pv] w fun e w' =>
      e = .returned (.int .i64 (partitionEqual ltInt d a b pv).1) ∧ Row P R w' g off (partitionEqual ltInt d a b pv).2 ∧ w.grownBy w' (some g) := by
  have HR := Lib.hid hH
  clear hH
  obtain ⟨G, hG⟩ : ∃ G : Nat → Int, ∀ t, G t = d[t]! := ⟨fun t => d[t]!, fun _ => rfl⟩
  have hcw : ∀ t, t < d.size → w.cell? ⟨g, off + t, none⟩ = some (.int .u32 (G t)) := fun t ht => by
    rw [hG]; exact HR.out.cell t (by omega)
  have hfw : ∀ t, t < d.size → w.frozen? ⟨g, off + t, none⟩ = false := fun t _ => HR.out.frozen t
  have HG : Hid (∀ t, G t = d[t]!) := Lib.hid hG
  clear hG
  obtain ⟨F, hF⟩ : ∃ F, F = partEqLoop ltInt a (a + 1) (b - 1) (swp d a pv) := ⟨_, rfl⟩
  have hFF : partitionEqual ltInt d a b pv = F := by rw [hF]; rfl
  rw [hFF]
  have HF := Lib.hid hF
  clear hF hFF
  have hne : ¬ pv = a := by omega
  go_enter Tryz.func116, Tryz.ntmps116
  go_wp2_with fail
  go_region
  have hsw := swap_drew HR.out (World.grownBy.refl w (some g)) a pv (by omega) (by omega) (HG.out pv) (HG.out a)
  have HS1 := Lib.hid hsw.1
  have HS2 := Lib.hid hsw.2
  clear hsw
  go_wp2_with fail
  go_loopw [9, 10] (fun s9 s10 wr => ∃ (i j : Nat) (dk : Array Int), s9 = .int .i64 i ∧ s10 = .int .i64 j ∧ a < i ∧ i ≤ j + 1 ∧ j < b ∧ dk.size = d.size ∧ Hid (Row P R wr g off dk) ∧ Hid (w.grownBy wr (some g)) ∧
      Hid (partEqLoop ltInt a i j dk = F)) (fun s9 s10 _ => (intOf s10 + 1 - intOf s9).toNat)
  case atStart => exact ⟨a + 1, b - 1, _, by go_num, by congr 1; omega, by omega, by omega, by omega, by rw [size_swp], HS1, HS2, Lib.hid HF.out.symm⟩
  case round =>
    clear hcw hfw HG HS1 HS2
    obtain ⟨i, j, dk, rfl, rfl, hai, hij, hjb, hsk, HRk, HGk, HO⟩ := hrel
    go_upto_block 2 with fail
    go_cut [9] (fun s wx => ∃ x : Nat, s = .int .i64 x ∧ Hid (x = scanUp (fun x => !ltInt dk[a]! x) dk j i) ∧ Hid (Row P R wx g off dk) ∧ Hid (w.grownBy wx (some g)))
    case first =>
      go_wp2_with fail
      go_loopw [9] (fun s wr2 => ∃ x : Nat, s = .int .i64 x ∧ i ≤ x ∧ x ≤ j + 1 ∧ Hid (Row P R wr2 g off dk) ∧ Hid (w.grownBy wr2 (some g)) ∧ Hid (scanUp (fun x => !ltInt dk[a]! x) dk j x = scanUp (fun x => !ltInt dk[a]! x) dk j i)) (fun s _ => (((j : Nat) : Int) + 1 - intOf s).toNat)
      case atStart => exact ⟨i, by first | rfl | go_num | (congr 1 <;> omega), Nat.le_refl _, hij, HRk, HGk, Lib.hid rfl⟩
      case round =>
        obtain ⟨x, rfl, hx1, hx2, HRx, HGx, HSx⟩ := hrel
        obtain ⟨G, hG⟩ : ∃ G : Nat → Int, ∀ t, G t = dk[t]! := ⟨fun t => dk[t]!, fun _ => rfl⟩
        have hcw : ∀ t, t < d.size → wr.cell? ⟨g, off + t, none⟩ = some (.int .u32 (G t)) := fun t ht => by
          rw [hG]; exact HRx.out.cell t (by omega)
        have hfw : ∀ t, t < d.size → wr.frozen? ⟨g, off + t, none⟩ = false := fun t _ => HRx.out.frozen t
        have HG : Hid (∀ t, G t = dk[t]!) := Lib.hid hG
        clear hG
        by_cases hxj : x ≤ j
        · go_wp2_with fail
          go_quiet (first | (go_at_call 115; refine Calls.quiet_of_same (less_any _ _ _)))
          go_wp2_with fail
          · have hl : ltInt (G a) (G x) = false := by
              have : (!ltInt (G a) (G x)) = true := by assumption
              simpa using this
            rw [HG.out, HG.out] at hl
            go_roundw
            case rel => exact ⟨x + 1, by first | rfl | go_num | (congr 1 <;> omega), by omega, by omega, HRx, Lib.hid (only_drewN HGx.out nq), Lib.hid (by rw [← HSx.out]; exact (up_on (by omega) (by simp [hl])).symm)⟩
            case measure => simp [intOf] <;> omega
          · have hl : ltInt (G a) (G x) = true := by
              have : (!ltInt (G a) (G x)) = false := by assumption
              simpa using this
            rw [HG.out, HG.out] at hl
            go_meet
            exact ⟨x, rfl, Lib.hid (by rw [← HSx.out]; exact (up_off (Or.inr (by simp [hl]))).symm), HRx, Lib.hid (only_drewN HGx.out nq)⟩
        · go_wp2_with fail
          go_quiet (first | (go_at_call 115; refine Calls.quiet_of_same (less_any _ _ _)))
          go_wp2_with fail
          go_meet
          exact ⟨x, rfl, Lib.hid (by rw [← HSx.out]; exact (up_off (Or.inl (by omega))).symm), HRx, Lib.hid (only_drewN HGx.out nq)⟩
    case rest =>
      obtain ⟨i2, rfl, HI2, HRk2, HGk2⟩ := hcut
      have hi2 : i ≤ i2 ∧ i2 ≤ j + 1 := by
        obtain ⟨r1, r2, _⟩ := two_scans (fun x => !ltInt dk[a]! x) (fun x => ltInt dk[a]! x) (fun x => by simp) dk i j i2 _ (by omega) hij HI2.out rfl
        exact ⟨r1, r2⟩
      have hi2j : i2 ≤ j + 1 := hi2.2
      clear HRk HGk
      go_upto_block 4 with fail
      go_cut [10] (fun s wx => ∃ x : Nat, s = .int .i64 x ∧ Hid (x = scanDown (fun x => ltInt dk[a]! x) dk i2 j) ∧ Hid (Row P R wx g off dk) ∧ Hid (w.grownBy wx (some g)))
      case first =>
        go_wp2_with fail
        go_loopw [10] (fun s wr2 => ∃ x : Nat, s = .int .i64 x ∧ x ≤ j ∧ i2 ≤ x + 1 ∧ Hid (Row P R wr2 g off dk) ∧ Hid (w.grownBy wr2 (some g)) ∧ Hid (scanDown (fun x => ltInt dk[a]! x) dk i2 x = scanDown (fun x => ltInt dk[a]! x) dk i2 j)) (fun s _ => (intOf s + 1).toNat)
        case atStart => exact ⟨j, by first | rfl | go_num | (congr 1 <;> omega), Nat.le_refl _, hi2j, HRk2, HGk2, Lib.hid rfl⟩
        case round =>
          obtain ⟨x, rfl, hx1, hx2, HRx, HGx, HSx⟩ := hrel
          obtain ⟨G, hG⟩ : ∃ G : Nat → Int, ∀ t, G t = dk[t]! := ⟨fun t => dk[t]!, fun _ => rfl⟩
          have hcw : ∀ t, t < d.size → wr.cell? ⟨g, off + t, none⟩ = some (.int .u32 (G t)) := fun t ht => by
            rw [hG]; exact HRx.out.cell t (by omega)
          have hfw : ∀ t, t < d.size → wr.frozen? ⟨g, off + t, none⟩ = false := fun t _ => HRx.out.frozen t
          have HG : Hid (∀ t, G t = dk[t]!) := Lib.hid hG
          clear hG
          by_cases hxj : i2 ≤ x
          · go_wp2_with fail
            go_quiet (first | (go_at_call 115; refine Calls.quiet_of_same (less_any _ _ _)))
            go_wp2_with fail
            · have hl : ltInt (G a) (G x) = true := by
                have : (ltInt (G a) (G x)) = true := by assumption
                simpa using this
              rw [HG.out, HG.out] at hl
              go_roundw
              case rel => exact ⟨x - 1, by first | rfl | go_num | (congr 1 <;> omega), by omega, by omega, HRx, Lib.hid (only_drewN HGx.out nq), Lib.hid (by rw [← HSx.out]; exact (dn_on (by omega) (by omega) (by simp [hl])).symm)⟩
              case measure => simp [intOf] <;> omega
            · have hl : ltInt (G a) (G x) = false := by
                have : (ltInt (G a) (G x)) = false := by assumption
                simpa using this
              rw [HG.out, HG.out] at hl
              go_meet
              exact ⟨x, rfl, Lib.hid (by rw [← HSx.out]; exact (dn_off (Or.inr (by simp [hl]))).symm), HRx, Lib.hid (only_drewN HGx.out nq)⟩
          · go_wp2_with fail
            go_quiet (first | (go_at_call 115; refine Calls.quiet_of_same (less_any _ _ _)))
            go_wp2_with fail
            go_meet
            exact ⟨x, rfl, Lib.hid (by rw [← HSx.out]; exact (dn_off (Or.inl (by omega))).symm), HRx, Lib.hid (only_drewN HGx.out nq)⟩
      case rest =>
        obtain ⟨j2, rfl, HJ2, HRk22, HGk22⟩ := hcut
        obtain ⟨r1, r2, r3, r4, r5⟩ := two_scans (fun x => !ltInt dk[a]! x) (fun x => ltInt dk[a]! x) (fun x => by simp) dk i j i2 j2 (by omega) hij HI2.out HJ2.out
        have hO := HO.out
        rw [partEqLoop_eq, ← HI2.out, ← HJ2.out] at hO
        clear HRk2 HGk2
        obtain ⟨G, hG⟩ : ∃ G : Nat → Int, ∀ t, G t = dk[t]! := ⟨fun t => dk[t]!, fun _ => rfl⟩
        have hcw : ∀ t, t < d.size → wc.cell? ⟨g, off + t, none⟩ = some (.int .u32 (G t)) := fun t ht => by
          rw [hG]; exact HRk22.out.cell t (by omega)
        have hfw : ∀ t, t < d.size → wc.frozen? ⟨g, off + t, none⟩ = false := fun t _ => HRk22.out.frozen t
        have HG : Hid (∀ t, G t = dk[t]!) := Lib.hid hG
        clear hG
        by_cases hgt : (j2 : Int) < (i2 : Int)
        · rw [if_pos (by omega)] at hO
          go_wp2
          go_ret
          rw [← hO]
          exact ⟨rfl, HRk22.out, HGk22.out⟩
        · rw [if_neg (by omega)] at hO
          have hlt2 : i2 < j2 := r5 (by omega)
          have hne2 : ¬ j2 = i2 := by omega
          have HOO := Lib.hid hO
          clear hO
          go_wp2_with fail
          go_region
          have hsw := swap_drew HRk22.out HGk22.out i2 j2 (by omega) (by omega) (HG.out j2) (HG.out i2)
          have HS1 := Lib.hid hsw.1
          have HS2 := Lib.hid hsw.2
          clear hsw
          go_wp2
          go_roundw
          case rel => exact ⟨i2 + 1, j2 - 1, swp dk i2 j2, by go_num, by congr 1; omega, by omega, by omega, by omega, by rw [size_swp]; exact hsk, HS1, HS2, HOO⟩
          case measure => simp [intOf] <;> omega
end Go.Proofs.YtgdbhmlmioihpaaGreatDoor
end
