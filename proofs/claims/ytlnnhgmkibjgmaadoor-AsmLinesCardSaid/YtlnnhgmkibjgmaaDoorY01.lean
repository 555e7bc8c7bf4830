/- The program's Join. -/
import Derived.Test.YtlnnhgmkibjgmaaDoorX25
import Derived.Test.YtlnnhgmkibjgmaaDoorX23
import Derived.Laws.OwnMore
set_option linter.unusedVariables false
set_option linter.unusedSimpArgs false
namespace Go.Proofs.YtlnnhgmkibjgmaaDoor
open Go Go.RowKit Oj Al

theorem flatL_at (L : List Ln) (i k : Nat) (hi : i < L.length) (hk : k < 8) : (flatL lnCells Ln.nought L)[i * 8 + k]? = (lnCells (L.getD i Ln.nought))[k]? := by
  unfold flatL
  exact flat_get L.length (z := 8) (fun _ _ => rfl) i k hi hk
/-- Writing over with what is there. -/
theorem row_again {w : World} {B g n c j : Nat} {xs : List Value} {u : Value} {e : TypeId} {z : Nat} (h : w.ownsRow B e z (.slice (some ⟨g, 0, none⟩) n c) n xs) (hj : xs[j]? = some u) :
    (w.setCell ⟨g, j, none⟩ u).ownsRow B e z (.slice (some ⟨g, 0, none⟩) n c) n xs := by
  have h1 := (World.ownsRow.stored h j u).1
  obtain ⟨hl, he⟩ := List.getElem?_eq_some_iff.1 hj
  have h2 : xs.set j u = xs := by rw [← he]; exact List.set_getElem_self hl
  rw [h2] at h1
  exact h1
theorem row_line {w : World} {B : Nat} {v : Value} {L : List Ln} (h : w.ownsRow B 42 8 v L.length (flatL lnCells Ln.nought L)) (i : Nat) (hi : i < L.length) : ∃ g c, v = .slice (some ⟨g, 0, none⟩) L.length c ∧ B ≤ g ∧ g < w.heap.size ∧ (∀ k u, (lnCells (L.getD i Ln.nought))[k]? = some u → w.cell? ⟨g, i * 8 + k, none⟩ = some u) ∧ ∀ k, w.frozen? ⟨g, k, none⟩ = false := by
  rcases h.2 with ⟨hv, h0⟩ | ⟨g, cap, cur, hv, hB, hg, _⟩
  · omega
  · subst hv
    refine ⟨g, cap, rfl, hB, (Array.getElem?_eq_some_iff.1 hg).1, fun k u hu => ?_, fun k => World.ownsRow.frozenAt h k⟩
    have hk : k < 8 := by have := (List.getElem?_eq_some_iff.1 hu).1; exact this
    rw [World.ownsRow.cellAt h (i * 8 + k) (by omega), flatL_at L i k hi hk]
    exact hu
set_option maxHeartbeats 8000000 in
set_option maxRecDepth 100000 in
theorem ajoin_any (LL : List (List Ln)) (v : Value) (w : World) (hA : SlsAt 8 lnCells Ln.nought w v LL) (hb : LL.flatten.length * 56 ≤ 140737488355328) (hl : LL.length ≤ 1048576) (hf : ∀ j, j < LL.flatten.length → lnFits (LL.flatten.getD j Ln.nought)) :
    Calls Tryd.prog 29 #[v] w (CatL w LL.flatten) := by
  have HC := Lib.hid (concatL_any LL v w hA hb hl)
  obtain ⟨L, hL⟩ : ∃ L, L = LL.flatten := ⟨_, rfl⟩
  rw [← hL] at HC hf hb ⊢
  obtain ⟨S, ⟨a, c, rfl, _⟩, _⟩ := hA
  have HOW : Hid (∀ i, i < L.length → ∀ w', Calls Tryd.prog 45 #[lnV (L.getD i Ln.nought)] w' fun e w'' => e = .returned (lnV (L.getD i Ln.nought)) ∧ Below w'.heap.size w' w'') := Lib.hid (fun i hi w' => by
    obtain ⟨f1, f2, f3, f4, f5, f6, f7, f8⟩ := hf i hi
    exact aown_raw (tx (L.getD i Ln.nought).label) (tx (L.getD i Ln.nought).to) (tx (L.getD i Ln.nought).name) _ _ _ _ _ f1 f7 f8 w')
  have HFIN : Hid (∀ v w', w'.ownsRow w.heap.size 42 8 v L.length (flatL lnCells Ln.nought L) → Below w.heap.size w w' → CatL w L (.returned v) w') := Lib.hid (fun v w' h1 h2 => ⟨v, rfl, h1, h2⟩)
  have HRL : Hid (∀ (i : Nat) (w' : World) (v : Value), i < L.length → w'.ownsRow w.heap.size 42 8 v L.length (flatL lnCells Ln.nought L) → ∃ g c, v = .slice (some ⟨g, 0, none⟩) L.length c ∧ w.heap.size ≤ g ∧ g < w'.heap.size ∧ (∀ k u, (lnCells (L.getD i Ln.nought))[k]? = some u → w'.cell? ⟨g, i * 8 + k, none⟩ = some u) ∧ ∀ k, w'.frozen? ⟨g, k, none⟩ = false) := Lib.hid (fun i w' v hi h => row_line h i hi)
  have HAT : Hid (∀ i k, i < L.length → k < 8 → (flatL lnCells Ln.nought L)[i * 8 + k]? = (lnCells (L.getD i Ln.nought))[k]?) := Lib.hid (fun i k hi hk => flatL_at L i k hi hk)
  obtain ⟨n, hn⟩ : ∃ n, n = L.length := ⟨_, rfl⟩
  have hni : (n : Int) ≤ 2513169434916 := by omega
  unfold CatL at HC
  rw [← hn] at HC HOW HFIN HRL HAT
  obtain ⟨XS, hXS⟩ : ∃ XS, XS = flatL lnCells Ln.nought L := ⟨_, rfl⟩
  rw [← hXS] at HC HFIN HRL HAT
  clear hL hb hl hf hn hXS
  go_enter Tryd.func29, Tryd.ntmps29
  go_wp2_with fail
  refine HC.out.mono ?_; rintro e w1 ⟨v1, rfl, r1, q1⟩
  obtain ⟨a1, c1, hv1⟩ := row_slice r1
  subst hv1
  have R1 := Lib.hid r1
  have B1 := Lib.hid q1
  clear r1 q1 HC
  go_wp2_with fail
  go_loopw [10] (fun i wr => ∃ k : Nat, (k : Int) ≤ n ∧ i = .int .i64 k ∧ Hid (wr.ownsRow w.heap.size 42 8 (.slice a1 n c1) n XS) ∧ Hid (Below w.heap.size w wr)) (fun i _ => n - (intOf i).toNat)
  case atStart => exact ⟨0, by omega, rfl, R1, B1⟩
  case round =>
    obtain ⟨k, hk, rfl, hR, hB⟩ := hrel
    by_cases hlt : k < n
    · obtain ⟨g, c2, hv, hwg, hg, hcx, hfz⟩ := HRL.out k wr _ hlt hR.out
      injection hv with hv1 _ hv3
      subst hv1 hv3
      have HOx := Lib.hid (HOW.out k hlt)
      have HATk := Lib.hid (HAT.out k · hlt)
      obtain ⟨x, hx⟩ : ∃ x, x = L.getD k Ln.nought := ⟨_, rfl⟩
      rw [← hx] at hcx HOx HATk
      obtain ⟨lb, op, d, a0, b, im, dst, nam⟩ := x
      unfold lnV at HOx
      unfold lnCells at hcx HATk
      simp only at hcx HOx HATk
      obtain ⟨LB, hLB⟩ : ∃ L, L = tx lb := ⟨_, rfl⟩
      obtain ⟨T, hT⟩ : ∃ L, L = tx dst := ⟨_, rfl⟩
      obtain ⟨N, hN⟩ : ∃ L, L = tx nam := ⟨_, rfl⟩
      rw [← hLB, ← hT, ← hN] at hcx HOx HATk
      have y0 := hcx 0 _ rfl
      have y1 := hcx 1 _ rfl
      have y2 := hcx 2 _ rfl
      have y3 := hcx 3 _ rfl
      have y4 := hcx 4 _ rfl
      have y5 := hcx 5 _ rfl
      have y6 := hcx 6 _ rfl
      have y7 := hcx 7 _ rfl
      rw [Nat.add_zero] at y0
      have hnb := below_new1 wr (.cells #[.string LB, .int .u8 op, .int .u8 d, .int .u8 a0, .int .u8 b, .int .u32 im, .string T, .string N] 42)
      have HX1 := Lib.hid (Blk.new wr 42 [.string LB, .int .u8 op, .int .u8 d, .int .u8 a0, .int .u8 b, .int .u32 im, .string T, .string N])
      have HR1 := Lib.hid (row_below hR.out hnb)
      have HB1 := Lib.hid (below_call hB.out hnb)
      have hdk : decide (k < n) = true := decide_eq_true hlt
      clear hcx hfz hx hLB hT hN hnb hR hB
      go_upto_region 5 with (fail)
      obtain ⟨g3, hg3⟩ : ∃ t, t = wr.heap.size := ⟨_, rfl⟩
      obtain ⟨w3, hw3⟩ : ∃ t, t = wr.alloc (.cells #[.string LB, .int .u8 op, .int .u8 d, .int .u8 a0, .int .u8 b, .int .u32 im, .string T, .string N] 42) := ⟨_, rfl⟩
      rw [← hw3] at HX1 HR1 HB1 ⊢
      rw [← hg3] at HX1 ⊢
      clear hw3 hg3 y0 y1 y2 y3 y4 y5 y6 y7
      obtain ⟨y0, y1, y2, y3, y4, y5, y6, y7⟩ := HX1.out.eight
      go_wp2_with fail
      refine (HOx.out _).mono ?_; rintro e w4 ⟨rfl, q⟩
      have HR2 := Lib.hid (row_below HR1.out q)
      have HB2 := Lib.hid (below_call HB1.out q)
      clear q HX1 HR1 HB1 HOx y0 y1 y2 y3 y4 y5 y6 y7
      obtain ⟨g', c', hv', hwg', hg', hcx, hfz⟩ := HRL.out k w4 _ hlt HR2.out
      injection hv' with hv1' _ hv3'
      injection hv1' with hv4
      injection hv4 with hv5
      subst hv5 hv3'
      have x0 := (World.ownsRow.cellAt HR2.out (k * 8 + 0) (by omega)).trans (HATk.out 0 (by omega))
      have x1 := (World.ownsRow.cellAt HR2.out (k * 8 + 1) (by omega)).trans (HATk.out 1 (by omega))
      have x2 := (World.ownsRow.cellAt HR2.out (k * 8 + 2) (by omega)).trans (HATk.out 2 (by omega))
      have x3 := (World.ownsRow.cellAt HR2.out (k * 8 + 3) (by omega)).trans (HATk.out 3 (by omega))
      have x4 := (World.ownsRow.cellAt HR2.out (k * 8 + 4) (by omega)).trans (HATk.out 4 (by omega))
      have x5 := (World.ownsRow.cellAt HR2.out (k * 8 + 5) (by omega)).trans (HATk.out 5 (by omega))
      have x6 := (World.ownsRow.cellAt HR2.out (k * 8 + 6) (by omega)).trans (HATk.out 6 (by omega))
      have x7 := (World.ownsRow.cellAt HR2.out (k * 8 + 7) (by omega)).trans (HATk.out 7 (by omega))
      simp only [List.getElem?_cons_zero, List.getElem?_cons_succ, Nat.add_zero] at x0 x1 x2 x3 x4 x5 x6 x7
      have e0 := hfz (k * 8)
      have e1 := hfz (k * 8 + 1)
      have e2 := hfz (k * 8 + 2)
      have e3 := hfz (k * 8 + 3)
      have e4 := hfz (k * 8 + 4)
      have e5 := hfz (k * 8 + 5)
      have e6 := hfz (k * 8 + 6)
      have e7 := hfz (k * 8 + 7)
      have HST : Hid (∀ w', w' = (((((((w4.setCell ⟨g, k * 8, none⟩ (.string LB)).setCell ⟨g, k * 8 + 1, none⟩ (.int .u8 op)).setCell ⟨g, k * 8 + 2, none⟩ (.int .u8 d)).setCell ⟨g, k * 8 + 3, none⟩ (.int .u8 a0)).setCell ⟨g, k * 8 + 4, none⟩ (.int .u8 b)).setCell ⟨g, k * 8 + 5, none⟩ (.int .u32 im)).setCell ⟨g, k * 8 + 6, none⟩ (.string T)).setCell ⟨g, k * 8 + 7, none⟩ (.string N) → w'.ownsRow w.heap.size 42 8 (.slice (some ⟨g, 0, none⟩) n c1) n XS ∧ Below w.heap.size w w') := Lib.hid (by
        rintro w' rfl
        have t := fun (i : Nat) (hi : i < 8) => HATk.out i hi
        exact ⟨row_again (row_again (row_again (row_again (row_again (row_again (row_again (row_again HR2.out (t 0 (by omega))) (t 1 (by omega))) (t 2 (by omega))) (t 3 (by omega))) (t 4 (by omega))) (t 5 (by omega))) (t 6 (by omega))) (t 7 (by omega)),
          below_set (below_set (below_set (below_set (below_set (below_set (below_set (below_set HB2.out hwg _ _) hwg _ _) hwg _ _) hwg _ _) hwg _ _) hwg _ _) hwg _ _) hwg _ _⟩)
      clear hcx hfz HR2 HB2 HATk
      go_wp2_with fail
      obtain ⟨t1, t2⟩ := HST.out _ rfl
      have T1 := Lib.hid t1
      have T2 := Lib.hid t2
      clear t1 t2 HST x0 x1 x2 x3 x4 x5 x6 x7 e0 e1 e2 e3 e4 e5 e6 e7
      go_roundw
      case rel => exact ⟨k + 1, by omega, by go_num, T1, T2⟩
      case measure => simp [intOf]; omega
    · obtain rfl : k = n := by omega
      have HP := Lib.hid (HFIN.out _ wr hR.out hB.out)
      clear hlt hk hR hB HFIN HRL HAT HOW
      go_wp2_with fail
      go_ret
      exact HP.out
end Go.Proofs.YtlnnhgmkibjgmaaDoor
