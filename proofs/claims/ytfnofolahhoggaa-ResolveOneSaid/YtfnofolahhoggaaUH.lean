/- The program's has: is there a symbol? -/
import Derived.Test.YtfnofolahhoggaaUG
import Derived.BigQuiet
import Derived.Deep.DeepCutAuto
set_option linter.unusedVariables false
set_option linter.unusedSimpArgs false
namespace Go.Proofs.Ytfnofolahhoggaa
open Go Go.RowKit Go.Maps Oj Rv

set_option maxHeartbeats 8000000 in
set_option maxRecDepth 100000 in
theorem vhas_any (l : List Ob) (v : Value) (om : Option Nat) (x y : Int) (hf : obsFit l) (w : World) (hA : ObsAt w v l) :
    Calls Try.prog 26 #[.agg #[.map om, v], .agg #[.int .i64 x, .int .i64 y]] w fun e w' => e = .returned (.bool (hasL l x y)) ∧ Below w.heap.size w w' := by
  obtain ⟨a, c, rfl, h2⟩ := hA.two
  obtain ⟨n, hn⟩ : ∃ n, n = l.length := ⟨_, rfl⟩
  have hni : (n : Int) ≤ 3518437208884 := by have := hf.1; omega
  have HN := Lib.hid hn
  have HF := Lib.hid hf.2
  rw [← hn] at h2 ⊢
  have HB := Lib.hid (below_box (below_new1 w (.cells #[.map om, .slice a n c] 60)) (.cells #[.int .i64 x, .int .i64 y] 24))
  have hX := Blk.new (w.alloc (.cells #[.map om, .slice a n c] 60)) 24 [.int .i64 x, .int .i64 y]
  have HY := Lib.hid ((Blk.new w 60 [.map om, .slice a n c]).alloc (.cells #[.int .i64 x, .int .i64 y] 24))
  have hsz : ((w.alloc (.cells #[.map om, .slice a n c] 60)).heap.size) = w.heap.size + 1 := by simp
  rw [hsz] at hX
  obtain ⟨p, hp⟩ : ∃ p, p = w.heap.size + 1 := ⟨_, rfl⟩
  rw [← hp] at hX
  obtain ⟨w1, hw1⟩ : ∃ w1, w1 = ((w.alloc (.cells #[.map om, .slice a n c] 60)).alloc (.cells #[.int .i64 x, .int .i64 y] 24)) := ⟨_, rfl⟩
  rw [← hw1] at HB hX HY
  have c0 := hX.cell 0
  have c1 := hX.cell 1
  simp only [List.getElem?_cons_zero, List.getElem?_cons_succ] at c0 c1
  have r1 := HY.out.cell 1
  simp only [List.getElem?_cons_zero, List.getElem?_cons_succ] at r1
  obtain ⟨E, hE⟩ : ∃ E, E = hasL l x y := ⟨_, rfl⟩
  have HE : Hid (E = decide (0 ≤ x ∧ x < n ∧ 0 ≤ y ∧ y < (symsN l x.toNat).length)) := Lib.hid (by rw [hE, hn]; rfl)
  rw [← hE]
  clear hE hA hX hf hn
  have HGO : Hid (∀ (Q : Exit → Act → World → Prop) (a0 : Act) (cd : Code), cd.wp Try.prog Q a0 w1 → cd.wp Try.prog Q a0 ((w.alloc (.cells #[.map om, .slice a n c] 60)).alloc (.cells #[.int .i64 x, .int .i64 y] 24))) := Lib.hid (by rw [hw1]; exact fun _ _ _ h => h)
  by_cases h0 : 0 ≤ x
  · have g0 : decide ((0 : Int) ≤ x) = true := decide_eq_true h0
    obtain ⟨k, rfl⟩ := Int.eq_ofNat_of_zero_le h0
    by_cases h1 : k < n
    · obtain ⟨gb, o, ai, ci, rfl, hbl, d0, d1, -⟩ := h2 k h1
      have e1 := (HB.out.cell (p := ⟨gb, o + k * 2 + 1, none⟩) hbl).trans d1
      have hbr : gb < w1.heap.size := Nat.lt_of_lt_of_le hbl HB.out.size
      obtain ⟨m, hm⟩ : ∃ m, m = (symsN l k).length := ⟨_, rfl⟩
      have hmi : (m : Int) ≤ 1599289640402 := by have := (HF.out k (by rw [← HN.out]; exact h1)).2.1; unfold symsN at hm; omega
      rw [← hm] at e1
      rw [Int.toNat_natCast, ← hm] at HE
      have g1 : decide ((k : Int) < (n : Int)) = true := decide_eq_true (by omega)
      have g1' : decide (k < n) = true := decide_eq_true h1
      clear d0 d1 hm HF HN h2
      by_cases h3 : 0 ≤ y
      · have g2 : decide ((0 : Int) ≤ y) = true := decide_eq_true h3
        by_cases h4 : y < (m : Int)
        · have g3 : decide (y < (m : Int)) = true := decide_eq_true h4
          have HR : Hid (E = true) := Lib.hid (by rw [HE.out]; exact decide_eq_true ⟨h0, by omega, h3, h4⟩)
          clear HE
          go_enter Try.func26, Try.ntmps26
          go_upto_region 1 with (fail)
          refine wp_nameA ?_; intro w0 hw0
          rw [hw0, ← hw1, ← hp]
          clear hw0 hw1 hp HGO
          go_quiet (fail)
          go_wp2_with fail
          go_ret
          exact ⟨by rw [HR.out]; rfl, below_call HB.out (below_drewN _ _)⟩
        · have g3 : decide (y < (m : Int)) = false := decide_eq_false h4
          have HR : Hid (E = false) := Lib.hid (by rw [HE.out]; exact decide_eq_false (fun h => h4 h.2.2.2))
          clear HE
          go_enter Try.func26, Try.ntmps26
          go_upto_region 1 with (fail)
          refine wp_nameA ?_; intro w0 hw0
          rw [hw0, ← hw1, ← hp]
          clear hw0 hw1 hp HGO
          go_quiet (fail)
          go_wp2_with fail
          go_ret
          exact ⟨by rw [HR.out]; rfl, below_call HB.out (below_drewN _ _)⟩
      · have g2 : decide ((0 : Int) ≤ y) = false := decide_eq_false h3
        have HR : Hid (E = false) := Lib.hid (by rw [HE.out]; exact decide_eq_false (fun h => h3 h.2.2.1))
        clear HE
        go_enter Try.func26, Try.ntmps26
        go_upto_region 1 with (fail)
        refine wp_nameA ?_; intro w0 hw0
        rw [hw0, ← hw1, ← hp]
        clear hw0 hw1 hp HGO
        go_quiet (fail)
        go_wp2_with fail
        go_ret
        exact ⟨by rw [HR.out]; rfl, below_call HB.out (below_drewN _ _)⟩
    · have g1 : decide ((k : Int) < (n : Int)) = false := decide_eq_false (by omega)
      have g1' : decide (k < n) = false := decide_eq_false h1
      clear h2
      have HR : Hid (E = false) := Lib.hid (by rw [HE.out]; exact decide_eq_false (fun h => h1 (by omega)))
      clear HE
      go_enter Try.func26, Try.ntmps26
      go_upto_region 1 with (fail)
      refine wp_nameA ?_; intro w0 hw0
      rw [hw0, ← hw1, ← hp]
      clear hw0 hw1 hp HGO
      go_quiet (fail)
      go_wp2_with fail
      go_ret
      exact ⟨by rw [HR.out]; rfl, below_call HB.out (below_drewN _ _)⟩
  · have g0 : decide ((0 : Int) ≤ x) = false := decide_eq_false h0
    clear h2
    have HR : Hid (E = false) := Lib.hid (by rw [HE.out]; exact decide_eq_false (fun h => h0 h.1))
    clear HE
    go_enter Try.func26, Try.ntmps26
    go_upto_region 1 with (fail)
    refine wp_nameA ?_; intro w0 hw0
    rw [hw0, ← hw1, ← hp]
    clear hw0 hw1 hp HGO
    go_quiet (fail)
    go_wp2_with fail
    go_ret
    exact ⟨by rw [HR.out]; rfl, below_call HB.out (below_drewN _ _)⟩
end Go.Proofs.Ytfnofolahhoggaa
