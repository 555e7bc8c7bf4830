/- The document's Find. -/
import Derived.Test.YtiadggeheiadiaaRC
set_option linter.unusedVariables false
set_option linter.unusedSimpArgs false
namespace Go.Proofs.Ytiadggeheiadiaa
open Go Go.RowKit Oj

theorem findS_nil (nm : List UInt8) : findS [] nm = none := rfl
set_option maxHeartbeats 8000000 in
set_option maxRecDepth 100000 in
theorem rfind_any (v : Value) (x : Ob) (hf : obFits x) (nm : ByteArray) (w : World) (hA : ObAt w v x) : Calls Try.prog 16 #[v, .string nm] w fun e w' => e = .returned (findV (findO x (by' nm))) ∧ Below w.heap.size w w' := by
  have HI := Lib.hid (fun W (hq : Below w.heap.size w W) => rmay_any v x hf W (hA.below hq))
  obtain ⟨on, l⟩ := x
  obtain ⟨hf1, hf2, hf3⟩ := hf
  obtain ⟨vs, rfl, R, N, ⟨a, c, rfl, h2⟩, h3⟩ := hA
  simp only at hf1 hf2 hf3 h2 h3 HI ⊢
  obtain ⟨n, hn⟩ : ∃ n, n = l.length := ⟨_, rfl⟩
  obtain ⟨M, hM⟩ : ∃ M, M = tx on := ⟨_, rfl⟩
  obtain ⟨p, hp⟩ : ∃ p, p = obOk ⟨on, l⟩ := ⟨_, rfl⟩
  obtain ⟨E, hE⟩ : ∃ E, E = findO ⟨on, l⟩ (by' nm) := ⟨_, rfl⟩
  have HE : Hid (E = if p = true then findS l (by' nm) else none) := Lib.hid (by rw [hE, hp]; rfl)
  rw [← hn, ← hM, ← hp] at HI
  rw [← hn] at h2
  rw [← hn, ← hM, ← hE]
  have HN := Lib.hid hn
  have H2 := Lib.hid h2
  have hni : (n : Int) ≤ 1599289640402 := by omega
  have HB0 := Lib.hid (below_new1 w (.cells #[.string M, .slice a n c] 24))
  have HX0 := Lib.hid (Blk.new w 24 [.string M, .slice a n c])
  clear hn hM h2 h3 hf1 hf2 hf3 hE hp
  cases p with
  | false =>
    have hr : E = none := by rw [HE.out]; rfl
    subst hr
    by_cases h0 : 0 < n
    · have h0' : (0 : Int) < (n : Int) := by omega
      clear h0
      go_enter Try.func16, Try.ntmps16
      go_wp2_with fail
      go_loopw [6] (fun i wr => i = .int .i64 0 ∧ Hid (Below w.heap.size w wr) ∧ Hid (Blk wr w.heap.size 24 [.string M, .slice a n c])) (fun i _ => 0)
      case atStart => exact ⟨rfl, HB0, HX0⟩
      case round =>
        clear HB0 HX0
        obtain ⟨rfl, HB, HX⟩ := hrel
        have b0 : wr.cell? ⟨w.heap.size, 0, none⟩ = some (.string M) := HX.out.cell 0
        have b1 : wr.cell? ⟨w.heap.size, 1, none⟩ = some (.slice a n c) := HX.out.cell 1
        go_wp2_with fail
        refine (HI.out _ HB.out).mono ?_; rintro e w2 ⟨rfl, q2⟩
        have HB2 := Lib.hid (below_call HB.out q2)
        clear q2
        go_wp2_with fail
        go_ret2
        exact ⟨rfl, HB2.out⟩
    · obtain rfl : n = 0 := by omega
      go_enter Try.func16, Try.ntmps16
      go_wp2_with fail
      go_loopw [6] (fun i wr => i = .int .i64 0 ∧ Hid (Below w.heap.size w wr) ∧ Hid (Blk wr w.heap.size 24 [.string M, .slice a 0 c])) (fun i _ => 0)
      case atStart => exact ⟨rfl, HB0, HX0⟩
      case round =>
        clear HB0 HX0
        obtain ⟨rfl, HB, HX⟩ := hrel
        have b1 : wr.cell? ⟨w.heap.size, 1, none⟩ = some (.slice a 0 c) := HX.out.cell 1
        go_wp2_with fail
        go_ret2
        exact ⟨rfl, HB.out⟩
  | true =>
    have HR : Hid (E = findS l (by' nm)) := Lib.hid (by rw [HE.out]; rfl)
    go_enter Try.func16, Try.ntmps16
    go_wp2_with fail
    go_loopw [6] (fun i wr => ∃ k : Nat, (k : Int) ≤ n ∧ i = .int .i64 k ∧ Hid (∀ j, j < k → (l.getD j Sy.nought).name ≠ by' nm) ∧ Hid (Below w.heap.size w wr) ∧ Hid (Blk wr w.heap.size 24 [.string M, .slice a n c])) (fun i _ => n - (intOf i).toNat)
    case atStart => exact ⟨0, by omega, rfl, Lib.hid fun j hj => absurd hj (by omega), HB0, HX0⟩
    case round =>
      clear HB0 HX0
      obtain ⟨k, hk, rfl, HK, HB, HX⟩ := hrel
      have b1 : wr.cell? ⟨w.heap.size, 1, none⟩ = some (.slice a n c) := HX.out.cell 1
      by_cases hlt : k < n
      · have b0 : wr.cell? ⟨w.heap.size, 0, none⟩ = some (.string M) := HX.out.cell 0
        obtain ⟨b, o, rfl, hbl, hcl⟩ := H2.out (by omega)
        have HL := Lib.hid (hcl k hlt)
        obtain ⟨U, hU⟩ : ∃ U, U = tx (l.getD k Sy.nought).name := ⟨_, rfl⟩
        have hbU : by' U = (l.getD k Sy.nought).name := by rw [hU, by_tx]
        have HU := Lib.hid hU
        have hd : decide (k < n) = true := decide_eq_true hlt
        have hs := str_eq U nm
        rw [hbU] at hs
        clear hU hbU hcl
        by_cases he : (l.getD k Sy.nought).name = by' nm
        · obtain rfl : E = some k := HR.out.trans (find_at (by rw [← HN.out]; exact hlt) he HK.out)
          rw [decide_eq_true he] at hs
          clear he HK
          go_wp2_with fail
          refine (HI.out _ HB.out).mono ?_; rintro e w2 ⟨rfl, q2⟩
          have HB2 := Lib.hid (below_call HB.out q2)
          have HX2 := Lib.hid (HX.out.call q2)
          clear q2 b0 b1
          have b1 : w2.cell? ⟨w.heap.size, 1, none⟩ = some (.slice (some ⟨b, o, none⟩) n c) := HX2.out.cell 1
          have c0 := (HL.out.below HB2.out hbl).sy.1
          rw [← HU.out] at c0
          go_wp2_with fail
          go_ret2
          exact ⟨rfl, HB2.out⟩
        · have HK2 : Hid (∀ j, j < k + 1 → (l.getD j Sy.nought).name ≠ by' nm) := Lib.hid fun j hj => by
            by_cases hx : j = k
            · subst hx; exact he
            · exact HK.out j (by omega)
          rw [decide_eq_false he] at hs
          clear he HK
          go_wp2_with fail
          refine (HI.out _ HB.out).mono ?_; rintro e w2 ⟨rfl, q2⟩
          have HB2 := Lib.hid (below_call HB.out q2)
          have HX2 := Lib.hid (HX.out.call q2)
          clear q2 b0 b1
          have b1 : w2.cell? ⟨w.heap.size, 1, none⟩ = some (.slice (some ⟨b, o, none⟩) n c) := HX2.out.cell 1
          have c0 := (HL.out.below HB2.out hbl).sy.1
          rw [← HU.out] at c0
          go_wp2_with fail
          clear b1 c0 hs
          go_roundw
          case rel => exact ⟨k + 1, by omega, by go_num, HK2, HB2, HX2⟩
          case measure => simp [intOf]; omega
      · have hd : decide (k < n) = false := decide_eq_false hlt
        obtain rfl : E = none := HR.out.trans (find_none fun j hj => HK.out j (by rw [← HN.out] at hj; omega))
        clear hlt HK
        go_wp2
        go_ret2
        exact ⟨rfl, HB.out⟩
end Go.Proofs.Ytiadggeheiadiaa
