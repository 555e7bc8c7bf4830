/- The library's sort at numbers of 32 bits: partitionEqual. -/
import Derived.Test.YtfickpjecehboaaTC
import Derived.Deep.CutBlock
import Derived.Sort.AssemblyPlain
set_option linter.unusedVariables false
namespace Go.Proofs.Ytfickpjecehboaa
open Go.RowKit Go.Sort

section
theorem up_on {p : Int → Bool} {d : Array Int} {j i : Nat} (h : i ≤ j) (hp : p d[i]! = true) : scanUp p d j i = scanUp p d j (i + 1) := by
  rw [scanUp, if_pos (by simp [h, hp])]
theorem up_off {p : Int → Bool} {d : Array Int} {j i : Nat} (h : ¬ i ≤ j ∨ p d[i]! = false) : scanUp p d j i = i := by
  rw [scanUp, if_neg (by rcases h with h | h <;> simp [h])]
theorem dn_on {p : Int → Bool} {d : Array Int} {i j : Nat} (h0 : 1 ≤ j) (h : i ≤ j) (hp : p d[j]! = true) : scanDown p d i j = scanDown p d i (j - 1) := by
  obtain ⟨k, rfl⟩ : ∃ k, j = k + 1 := ⟨j - 1, by omega⟩
  rw [scanDown, if_pos (by simp [h, hp])]
  rfl
theorem dn_off {p : Int → Bool} {d : Array Int} {i j : Nat} (h : ¬ i ≤ j ∨ p d[j]! = false) : scanDown p d i j = j := by
  cases j with
  | zero => rfl
  | succ k => rw [scanDown, if_neg (by rcases h with h | h <;> simp [h])]
end

theorem two_scans (p q : Int → Bool) (hq : ∀ x, q x = !p x) (d : Array Int) (i j i2 j2 : Nat) (h1 : 1 ≤ i) (hij : i ≤ j + 1) (e1 : i2 = scanUp p d j i) (e2 : j2 = scanDown q d i2 j) :
    i ≤ i2 ∧ i2 ≤ j + 1 ∧ j2 ≤ j ∧ i2 ≤ j2 + 1 ∧ (¬ i2 > j2 → i2 < j2) := by
  obtain ⟨r1, r2, r3, r4, _, _, r7⟩ := round_facts p q hq d (i - 1) (j + 1) i j (by omega) hij (fun t _ _ => by omega) (fun t _ _ => by omega)
  rw [← e1] at r1 r2 r3 r4 r7
  rw [← e2] at r3 r4 r7
  exact ⟨r1, r2, r3, r4, fun h => (r7 h).2.2⟩

set_option maxHeartbeats 2000000 in
set_option maxRecDepth 1000000 in
theorem parteq_any (P R : List Value) (g off cap a b pv : Nat) (d : Array Int) (w : World) (hH : Row P R w g off d) (hap : a < pv) (hpb : pv < b) (hb : b ≤ d.size) (hsz : d.size < 1099511627776) :
    Calls Try.prog 62 #[.slice (some ⟨g, off, none⟩) d.size cap, .int .i64 a, .int .i64 b, .int .i64 pv] w fun e w' =>
      e = .returned (.int .i64 (partitionEqual ltInt d a b pv).1) ∧ Row P R w' g off (partitionEqual ltInt d a b pv).2 ∧ w.grownBy w' (some g) := by
  have HR := Lib.hid hH
  clear hH
  obtain ⟨G, hG⟩ : ∃ G : Nat → Int, ∀ t, G t = d[t]! := ⟨fun t => d[t]!, fun _ => rfl⟩
  have hcw : ∀ t, t < d.size → w.cell? ⟨g, off + t, none⟩ = some (.int .u32 (G t)) := fun t ht => by
    rw [hG]; exact HR.out.cell t (by omega)
  have hfw : ∀ t, t < d.size → w.frozen? ⟨g, off + t, none⟩ = false := fun t _ => HR.out.frozen t
  have HG : Hid (∀ t, G t = d[t]!) := Lib.hid hG
  clear hG
  obtain ⟨F, hF⟩ : ∃ F, F = partEqLoop ltInt a (a + 1) (b - 1) (swp d a pv) := ⟨_, rfl⟩
  have hFF : partitionEqual ltInt d a b pv = F := by rw [hF]; rfl
  rw [hFF]
  have HF := Lib.hid hF
  clear hF hFF
  have hne : ¬ pv = a := by omega
  go_enter Try.func62, Try.ntmps62
  go_wp2_with fail
  go_region
  have hsw := swap_drew HR.out (World.grownBy.refl w (some g)) a pv (by omega) (by omega) (HG.out pv) (HG.out a)
  have HS1 := Lib.hid hsw.1
  have HS2 := Lib.hid hsw.2
  clear hsw
  go_wp2_with fail
  go_loopw [9, 10] (fun s9 s10 wr => ∃ (i j : Nat) (dk : Array Int), s9 = .int .i64 i ∧ s10 = .int .i64 j ∧ a < i ∧ i ≤ j + 1 ∧ j < b ∧ dk.size = d.size ∧ Hid (Row P R wr g off dk) ∧ Hid (w.grownBy wr (some g)) ∧
      Hid (partEqLoop ltInt a i j dk = F)) (fun s9 s10 _ => (intOf s10 + 1 - intOf s9).toNat)
  case atStart => exact ⟨a + 1, b - 1, _, by go_num, by congr 1; omega, by omega, by omega, by omega, by rw [size_swp], HS1, HS2, Lib.hid HF.out.symm⟩
  case round =>
    clear hcw hfw HG HS1 HS2
    obtain ⟨i, j, dk, rfl, rfl, hai, hij, hjb, hsk, HRk, HGk, HO⟩ := hrel
    go_upto_block 2 with fail
    go_cut [9] (fun s wx => ∃ x : Nat, s = .int .i64 x ∧ Hid (x = scanUp (fun x => !ltInt dk[a]! x) dk j i) ∧ Hid (Row P R wx g off dk) ∧ Hid (w.grownBy wx (some g)))
    case first =>
      go_wp2_with fail
      go_loopw [9] (fun s wr2 => ∃ x : Nat, s = .int .i64 x ∧ i ≤ x ∧ x ≤ j + 1 ∧ Hid (Row P R wr2 g off dk) ∧ Hid (w.grownBy wr2 (some g)) ∧ Hid (scanUp (fun x => !ltInt dk[a]! x) dk j x = scanUp (fun x => !ltInt dk[a]! x) dk j i)) (fun s _ => (((j : Nat) : Int) + 1 - intOf s).toNat)
      case atStart => exact ⟨i, by first | rfl | go_num | (congr 1 <;> omega), Nat.le_refl _, hij, HRk, HGk, Lib.hid rfl⟩
      case round =>
        obtain ⟨x, rfl, hx1, hx2, HRx, HGx, HSx⟩ := hrel
        obtain ⟨G, hG⟩ : ∃ G : Nat → Int, ∀ t, G t = dk[t]! := ⟨fun t => dk[t]!, fun _ => rfl⟩
        have hcw : ∀ t, t < d.size → wr.cell? ⟨g, off + t, none⟩ = some (.int .u32 (G t)) := fun t ht => by
          rw [hG]; exact HRx.out.cell t (by omega)
        have hfw : ∀ t, t < d.size → wr.frozen? ⟨g, off + t, none⟩ = false := fun t _ => HRx.out.frozen t
        have HG : Hid (∀ t, G t = dk[t]!) := Lib.hid hG
        clear hG
        by_cases hxj : x ≤ j
        · go_wp2_with fail
          go_quiet (first | (go_at_call 61; refine Calls.quiet_of_same (less_any _ _ _)))
          go_wp2_with fail
          · have hl : ltInt (G a) (G x) = false := by
              have : (!ltInt (G a) (G x)) = true := by assumption
              simpa using this
            rw [HG.out, HG.out] at hl
            go_roundw
            case rel => exact ⟨x + 1, by first | rfl | go_num | (congr 1 <;> omega), by omega, by omega, HRx, Lib.hid (only_drewN HGx.out nq), Lib.hid (by rw [← HSx.out]; exact (up_on (by omega) (by simp [hl])).symm)⟩
            case measure => simp [intOf] <;> omega
          · have hl : ltInt (G a) (G x) = true := by
              have : (!ltInt (G a) (G x)) = false := by assumption
              simpa using this
            rw [HG.out, HG.out] at hl
            go_meet
            exact ⟨x, rfl, Lib.hid (by rw [← HSx.out]; exact (up_off (Or.inr (by simp [hl]))).symm), HRx, Lib.hid (only_drewN HGx.out nq)⟩
        · go_wp2_with fail
          go_quiet (first | (go_at_call 61; refine Calls.quiet_of_same (less_any _ _ _)))
          go_wp2_with fail
          go_meet
          exact ⟨x, rfl, Lib.hid (by rw [← HSx.out]; exact (up_off (Or.inl (by omega))).symm), HRx, Lib.hid (only_drewN HGx.out nq)⟩
    case rest =>
      obtain ⟨i2, rfl, HI2, HRk2, HGk2⟩ := hcut
      have hi2 : i ≤ i2 ∧ i2 ≤ j + 1 := by
        obtain ⟨r1, r2, _⟩ := two_scans (fun x => !ltInt dk[a]! x) (fun x => ltInt dk[a]! x) (fun x => by simp) dk i j i2 _ (by omega) hij HI2.out rfl
        exact ⟨r1, r2⟩
      have hi2j : i2 ≤ j + 1 := hi2.2
      clear HRk HGk
      go_upto_block 4 with fail
      go_cut [10] (fun s wx => ∃ x : Nat, s = .int .i64 x ∧ Hid (x = scanDown (fun x => ltInt dk[a]! x) dk i2 j) ∧ Hid (Row P R wx g off dk) ∧ Hid (w.grownBy wx (some g)))
      case first =>
        go_wp2_with fail
        go_loopw [10] (fun s wr2 => ∃ x : Nat, s = .int .i64 x ∧ x ≤ j ∧ i2 ≤ x + 1 ∧ Hid (Row P R wr2 g off dk) ∧ Hid (w.grownBy wr2 (some g)) ∧ Hid (scanDown (fun x => ltInt dk[a]! x) dk i2 x = scanDown (fun x => ltInt dk[a]! x) dk i2 j)) (fun s _ => (intOf s + 1).toNat)
        case atStart => exact ⟨j, by first | rfl | go_num | (congr 1 <;> omega), Nat.le_refl _, hi2j, HRk2, HGk2, Lib.hid rfl⟩
        case round =>
          obtain ⟨x, rfl, hx1, hx2, HRx, HGx, HSx⟩ := hrel
          obtain ⟨G, hG⟩ : ∃ G : Nat → Int, ∀ t, G t = dk[t]! := ⟨fun t => dk[t]!, fun _ => rfl⟩
          have hcw : ∀ t, t < d.size → wr.cell? ⟨g, off + t, none⟩ = some (.int .u32 (G t)) := fun t ht => by
            rw [hG]; exact HRx.out.cell t (by omega)
          have hfw : ∀ t, t < d.size → wr.frozen? ⟨g, off + t, none⟩ = false := fun t _ => HRx.out.frozen t
          have HG : Hid (∀ t, G t = dk[t]!) := Lib.hid hG
          clear hG
          by_cases hxj : i2 ≤ x
          · go_wp2_with fail
            go_quiet (first | (go_at_call 61; refine Calls.quiet_of_same (less_any _ _ _)))
            go_wp2_with fail
            · have hl : ltInt (G a) (G x) = true := by
                have : (ltInt (G a) (G x)) = true := by assumption
                simpa using this
              rw [HG.out, HG.out] at hl
              go_roundw
              case rel => exact ⟨x - 1, by first | rfl | go_num | (congr 1 <;> omega), by omega, by omega, HRx, Lib.hid (only_drewN HGx.out nq), Lib.hid (by rw [← HSx.out]; exact (dn_on (by omega) (by omega) (by simp [hl])).symm)⟩
              case measure => simp [intOf] <;> omega
            · have hl : ltInt (G a) (G x) = false := by
                have : (ltInt (G a) (G x)) = false := by assumption
                simpa using this
              rw [HG.out, HG.out] at hl
              go_meet
              exact ⟨x, rfl, Lib.hid (by rw [← HSx.out]; exact (dn_off (Or.inr (by simp [hl]))).symm), HRx, Lib.hid (only_drewN HGx.out nq)⟩
          · go_wp2_with fail
            go_quiet (first | (go_at_call 61; refine Calls.quiet_of_same (less_any _ _ _)))
            go_wp2_with fail
            go_meet
            exact ⟨x, rfl, Lib.hid (by rw [← HSx.out]; exact (dn_off (Or.inl (by omega))).symm), HRx, Lib.hid (only_drewN HGx.out nq)⟩
      case rest =>
        obtain ⟨j2, rfl, HJ2, HRk22, HGk22⟩ := hcut
        obtain ⟨r1, r2, r3, r4, r5⟩ := two_scans (fun x => !ltInt dk[a]! x) (fun x => ltInt dk[a]! x) (fun x => by simp) dk i j i2 j2 (by omega) hij HI2.out HJ2.out
        have hO := HO.out
        rw [partEqLoop_eq, ← HI2.out, ← HJ2.out] at hO
        clear HRk2 HGk2
        obtain ⟨G, hG⟩ : ∃ G : Nat → Int, ∀ t, G t = dk[t]! := ⟨fun t => dk[t]!, fun _ => rfl⟩
        have hcw : ∀ t, t < d.size → wc.cell? ⟨g, off + t, none⟩ = some (.int .u32 (G t)) := fun t ht => by
          rw [hG]; exact HRk22.out.cell t (by omega)
        have hfw : ∀ t, t < d.size → wc.frozen? ⟨g, off + t, none⟩ = false := fun t _ => HRk22.out.frozen t
        have HG : Hid (∀ t, G t = dk[t]!) := Lib.hid hG
        clear hG
        by_cases hgt : (j2 : Int) < (i2 : Int)
        · rw [if_pos (by omega)] at hO
          go_wp2
          go_ret
          rw [← hO]
          exact ⟨rfl, HRk22.out, HGk22.out⟩
        · rw [if_neg (by omega)] at hO
          have hlt2 : i2 < j2 := r5 (by omega)
          have hne2 : ¬ j2 = i2 := by omega
          have HOO := Lib.hid hO
          clear hO
          go_wp2_with fail
          go_region
          have hsw := swap_drew HRk22.out HGk22.out i2 j2 (by omega) (by omega) (HG.out j2) (HG.out i2)
          have HS1 := Lib.hid hsw.1
          have HS2 := Lib.hid hsw.2
          clear hsw
          go_wp2
          go_roundw
          case rel => exact ⟨i2 + 1, j2 - 1, swp dk i2 j2, by go_num, by congr 1; omega, by omega, by omega, by omega, by rw [size_swp]; exact hsk, HS1, HS2, HOO⟩
          case measure => simp [intOf] <;> omega
end Go.Proofs.Ytfickpjecehboaa
