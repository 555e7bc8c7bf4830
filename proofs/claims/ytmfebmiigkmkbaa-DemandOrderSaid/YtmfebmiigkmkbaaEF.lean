/- The statements' Large. -/
import Derived.Test.YtmfebmiigkmkbaaDP
set_option linter.unusedVariables false
set_option linter.unusedSimpArgs false
namespace Go.Proofs.Ytmfebmiigkmkbaa
open Go Go.RowKit Oj Dm

/-- What Large answers: if it says no, there are at most 600 manifests. -/
def LPost (w : World) (l : List Mf) (e : Ending) (w' : World) : Prop := ∃ b : Bool, e = .returned (.bool b) ∧ (b = false → l.length ≤ 600) ∧ Below w.heap.size w w'
set_option maxHeartbeats 16000000 in
set_option maxRecDepth 100000 in
theorem large_any (v : Value) (l : List Mf) (w : World) (hA : MfsAt w v l) (hf : mfsFit l) : Calls Try.prog 7 #[v] w (LPost w l) := by
  obtain ⟨a, c, rfl, h3⟩ := hA.get
  obtain ⟨n, hn⟩ : ∃ n, n = l.length := ⟨_, rfl⟩
  have hni : (n : Int) ≤ 2199023255552 := by have := hf.1; omega
  rw [← hn] at h3 ⊢
  have HN := Lib.hid hn
  have H3 := Lib.hid h3
  have HF := Lib.hid hf.2
  have HB0 : Hid (Below w.heap.size w w) := Lib.hid (Below.refl _ _)
  clear hn h3 hf hA
  go_enter Try.func7, Try.ntmps7
  go_wp2_with fail
  go_loopw [3, 4] (fun s i wr => ∃ k : Nat, (k : Int) ≤ n ∧ i = .int .i64 k ∧ ∃ N : Int, s = .int .i64 N ∧ 0 ≤ N ∧ N ≤ 20000000000000000 ∧ Hid (n ≤ N ∧ N ≤ n + k * 87960930222080 ∧ k ≤ 100) ∧ Hid (Below w.heap.size w wr)) (fun _ i _ => n - (intOf i).toNat)
  case atStart => exact ⟨0, by omega, rfl, n, rfl, by omega, by omega, Lib.hid (by omega), HB0⟩
  case round =>
    clear HB0
    obtain ⟨k, hk, rfl, N, rfl, hN0, hN1, HK, HB⟩ := hrel
    by_cases hlt : k < n
    · have hd : decide (k < n) = true := decide_eq_true hlt
      have hki : (k : Int) < (n : Int) := by omega
      by_cases h100 : k < 100
      · have hd2 : decide ((k : Int) < 100) = true := decide_eq_true (by omega)
        have hi100 : (k : Int) < 100 := by omega
        obtain ⟨b, o, rfl, hbl, hcl⟩ := H3.out (by omega)
        obtain ⟨vx, vp, hL, hXx, hPp⟩ := hcl k hlt
        obtain ⟨c0, c1, c2, c3⟩ := (hL.below HB.out hbl).mf
        obtain ⟨ax, cx, hvx⟩ := slC_slice hXx
        obtain ⟨ap, cp, hvp⟩ := slC_slice hPp
        have hfx := HF.out k (by rw [← HN.out]; exact hlt)
        obtain ⟨nx, hnx⟩ : ∃ n, n = (l.getD k Mf.nought).ext.length := ⟨_, rfl⟩
        obtain ⟨np, hnp⟩ : ∃ n, n = (l.getD k Mf.nought).ports.length := ⟨_, rfl⟩
        have hnx1 : (nx : Int) ≤ 17592186044416 := by have := hfx.2.1; omega
        have hnp1 : (np : Int) ≤ 70368744177664 := by have := hfx.2.2.1; omega
        rw [← hnx] at hvx
        rw [← hnp] at hvp
        subst hvx hvp
        have hw1 : IntKind.i64.wrap (N + (nx : Int)) = N + (nx : Int) := by rw [IntKind.wrap_i64]; omega
        have hw2 : IntKind.i64.wrap (N + (nx : Int) + (np : Int)) = N + (nx : Int) + (np : Int) := by rw [IntKind.wrap_i64]; omega
        have HK2 : Hid ((n : Int) ≤ N + nx + np ∧ N + nx + np ≤ n + ((k + 1 : Nat) : Int) * 87960930222080 ∧ k + 1 ≤ 100) := Lib.hid (by have := HK.out; omega)
        have HR : Hid (0 ≤ N + (nx : Int) + (np : Int) ∧ N + (nx : Int) + (np : Int) ≤ 20000000000000000) := Lib.hid (by have := HK2.out; omega)
        clear hcl hL hXx hPp hfx hnx hnp HK h100
        go_upto_region 5 with (fail)
        go_quiet (fail)
        go_wp2_with fail
        clear c0 c1 c2 c3 hw1 hw2
        go_roundw
        case rel => exact ⟨k + 1, by omega, by go_num, _, rfl, HR.out.1, HR.out.2, HK2, Lib.hid (below_drew HB.out _)⟩
        case measure => simp [intOf]; omega
      · have hd2 : decide ((k : Int) < 100) = false := decide_eq_false (by omega)
        have hi100 : (100 : Int) ≤ (k : Int) := by omega
        clear h100
        by_cases hb : 600 < N
        · go_wp2_with fail
          go_ret
          exact ⟨true, ret_bool (by first | rfl | (simp; done) | (simp; omega)), (fun h => by cases h), HB.out⟩
        · have HLe : Hid (l.length ≤ 600) := Lib.hid (by have := HK.out; have := HN.out; omega)
          have hb2 : N ≤ 600 := by omega
          go_wp2_with fail
          go_ret
          exact ⟨false, ret_bool (by first | rfl | (simp; done) | (simp; omega)), (fun _ => HLe.out), HB.out⟩
    · have hd : decide (k < n) = false := decide_eq_false hlt
      by_cases hb : 600 < N
      · clear hlt
        go_wp2_with fail
        go_ret
        exact ⟨true, ret_bool (by first | rfl | (simp; done) | (simp; omega)), (fun h => by cases h), HB.out⟩
      · have HLe : Hid (l.length ≤ 600) := Lib.hid (by have := HK.out; have := HN.out; omega)
        have hb2 : N ≤ 600 := by omega
        clear hlt
        go_wp2_with fail
        go_ret
        exact ⟨false, ret_bool (by first | rfl | (simp; done) | (simp; omega)), (fun _ => HLe.out), HB.out⟩
end Go.Proofs.Ytmfebmiigkmkbaa
