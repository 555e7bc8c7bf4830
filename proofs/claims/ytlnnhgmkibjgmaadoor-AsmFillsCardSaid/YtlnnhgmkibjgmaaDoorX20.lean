/- The document's May and find (package aediculeref10). (written by mk_ac.py) -/
import Derived.Test.YtlnnhgmkibjgmaaDoorX17
set_option linter.unusedVariables false
set_option linter.unusedSimpArgs false
namespace Go.Proofs.YtlnnhgmkibjgmaaDoor
open Go Go.RowKit Oj Al

/-- Encode's error, of whatever it is asked. -/
def erI (ok : Bool) : Int := if ok = true then 0 else 2
set_option maxHeartbeats 8000000 in
set_option maxRecDepth 100000 in
theorem kmay_any (x : Ln) (hf : lnFits x) (w : World) : Calls Tryd.prog 36 #[lnV x] w fun e w' => e = .returned (.bool (lnOk x)) ∧ Below w.heap.size w w' := by
  have HBr := Lib.hid (fun W => kbare_any x W)
  obtain ⟨f1, ⟨o0, o1⟩, ⟨d0, d1⟩, ⟨a0, a1⟩, ⟨b0, b1⟩, ⟨i0, i1⟩, f7, f8⟩ := hf
  have j0 : 0 ≤ im0 x := by unfold im0; split <;> omega
  have j1 : im0 x < 4294967296 := by unfold im0; split <;> omega
  have HE1 : Hid (∀ W, Calls Tryd.prog 38 #[inV x.op x.d x.a x.b (im0 x)] W fun e w' => e = .returned (.tuple #[.string (I.encS x.op x.d x.a x.b (im0 x)), .int .i64 (erI (I.Ix.insnOk x.op x.d x.a x.b (im0 x)))]) ∧ Below W.heap.size W w') := Lib.hid (fun W => I.rencode_any x.op x.d x.a x.b (im0 x) o0 o1 d0 d1 a0 a1 b0 b1 j0 j1 W)
  have HE2 : Hid (∀ W, Calls Tryd.prog 38 #[inV x.op x.d x.a x.b 4] W fun e w' => e = .returned (.tuple #[.string (I.encS x.op x.d x.a x.b 4), .int .i64 (erI (I.Ix.insnOk x.op x.d x.a x.b 4))]) ∧ Below W.heap.size W w') := Lib.hid (fun W => I.rencode_any x.op x.d x.a x.b 4 o0 o1 d0 d1 a0 a1 b0 b1 (by decide) (by decide) W)
  have HN1 := Lib.hid (fun W => kname_any (tx x.label) (by rw [tx_size]; exact f1) W)
  have HN2 := Lib.hid (fun W => kname_any (tx x.to) (by rw [tx_size]; exact f7) W)
  have HN3 := Lib.hid (fun W => kname_any (tx x.name) (by rw [tx_size]; exact f8) W)
  rw [by_tx] at HN1 HN2 HN3
  have h1 := empty_eq (tx x.to)
  have h2 := empty_eq (tx x.name)
  rw [by_tx] at h1 h2
  obtain ⟨E, hE⟩ : ∃ E, E = lnOk x := ⟨_, rfl⟩
  rw [← hE]
  have HE : Hid (E = (I.Ix.insnOk x.op x.d x.a x.b (im0 x) && nm0 x.label && nm0 x.to && nm0 x.name && !(decide (x.to ≠ []) && decide (x.name ≠ [])) && (!(decide (x.to ≠ []) || decide (x.name ≠ [])) || I.Ix.insnOk x.op x.d x.a x.b 4))) := Lib.hid hE
  unfold lnV
  obtain ⟨ok1, k1⟩ : ∃ b, b = I.Ix.insnOk x.op x.d x.a x.b (im0 x) := ⟨_, rfl⟩
  obtain ⟨ok2, k2⟩ : ∃ b, b = I.Ix.insnOk x.op x.d x.a x.b 4 := ⟨_, rfl⟩
  obtain ⟨p1, k3⟩ : ∃ b, b = nm0 x.label := ⟨_, rfl⟩
  obtain ⟨p2, k4⟩ : ∃ b, b = nm0 x.to := ⟨_, rfl⟩
  obtain ⟨p3, k5⟩ : ∃ b, b = nm0 x.name := ⟨_, rfl⟩
  obtain ⟨S1, k6⟩ : ∃ b, b = I.encS x.op x.d x.a x.b (im0 x) := ⟨_, rfl⟩
  obtain ⟨S2, k7⟩ : ∃ b, b = I.encS x.op x.d x.a x.b 4 := ⟨_, rfl⟩
  rw [← k1, ← k6] at HE1
  rw [← k2, ← k7] at HE2
  rw [← k3] at HN1
  rw [← k4] at HN2
  rw [← k5] at HN3
  rw [← k1, ← k2, ← k3, ← k4, ← k5] at HE
  unfold lnV inV at HBr
  unfold inV at HE1 HE2
  obtain ⟨I0, k8⟩ : ∃ b, b = im0 x := ⟨_, rfl⟩
  rw [← k8] at HBr HE1
  obtain ⟨L, l1⟩ : ∃ b, b = tx x.label := ⟨_, rfl⟩
  obtain ⟨T, l2⟩ : ∃ b, b = tx x.to := ⟨_, rfl⟩
  obtain ⟨N, l3⟩ : ∃ b, b = tx x.name := ⟨_, rfl⟩
  obtain ⟨op, m1⟩ : ∃ b, b = x.op := ⟨_, rfl⟩
  obtain ⟨dd, m2⟩ : ∃ b, b = x.d := ⟨_, rfl⟩
  obtain ⟨aa, m3⟩ : ∃ b, b = x.a := ⟨_, rfl⟩
  obtain ⟨bb, m4⟩ : ∃ b, b = x.b := ⟨_, rfl⟩
  obtain ⟨im, m5⟩ : ∃ b, b = x.im := ⟨_, rfl⟩
  simp only [← l1, ← l2, ← l3, ← m1, ← m2, ← m3, ← m4, ← m5] at HBr HE1 HE2 HN1 HN2 HN3 h1 h2 ⊢
  obtain ⟨qt, n1⟩ : ∃ b, b = decide (x.to = []) := ⟨_, rfl⟩
  obtain ⟨qn, n2⟩ : ∃ b, b = decide (x.name = []) := ⟨_, rfl⟩
  have n3 : decide (x.to ≠ []) = !qt := by rw [n1]; by_cases h : x.to = [] <;> simp [h]
  have n4 : decide (x.name ≠ []) = !qn := by rw [n2]; by_cases h : x.name = [] <;> simp [h]
  rw [n3, n4] at HE
  rw [← n1] at h1
  rw [← n2] at h2
  have HB0 := Lib.hid (below_new1 w (.cells #[.string L, .int .u8 op, .int .u8 dd, .int .u8 aa, .int .u8 bb, .int .u32 im, .string T, .string N] 42))
  have HX0 := Lib.hid (Blk.new w 42 [.string L, .int .u8 op, .int .u8 dd, .int .u8 aa, .int .u8 bb, .int .u32 im, .string T, .string N])
  clear hE k1 k2 k3 k4 k5 k6 k7 k8 l1 l2 l3 m1 m2 m3 m4 m5 n1 n2 n3 n4 f1 o0 o1 d0 d1 a0 a1 b0 b1 i0 i1 f7 f8 j0 j1
  go_enter Tryd.func36, Tryd.ntmps36
  go_upto_region 1 with (fail)
  obtain ⟨wb, hwb⟩ : ∃ wb, wb = w.alloc (.cells #[.string L, .int .u8 op, .int .u8 dd, .int .u8 aa, .int .u8 bb, .int .u32 im, .string T, .string N] 42) := ⟨_, rfl⟩
  rw [← hwb] at HB0 HX0 ⊢
  clear hwb
  have c0 : wb.cell? ⟨w.heap.size, 0, none⟩ = some (.string L) := HX0.out.cell 0
  have c1 : wb.cell? ⟨w.heap.size, 1, none⟩ = some (.int .u8 op) := HX0.out.cell 1
  have c2 : wb.cell? ⟨w.heap.size, 2, none⟩ = some (.int .u8 dd) := HX0.out.cell 2
  have c3 : wb.cell? ⟨w.heap.size, 3, none⟩ = some (.int .u8 aa) := HX0.out.cell 3
  have c4 : wb.cell? ⟨w.heap.size, 4, none⟩ = some (.int .u8 bb) := HX0.out.cell 4
  have c5 : wb.cell? ⟨w.heap.size, 5, none⟩ = some (.int .u32 im) := HX0.out.cell 5
  have c6 : wb.cell? ⟨w.heap.size, 6, none⟩ = some (.string T) := HX0.out.cell 6
  have c7 : wb.cell? ⟨w.heap.size, 7, none⟩ = some (.string N) := HX0.out.cell 7
  go_wp2_with fail
  refine (HBr.out _).mono ?_; rintro e w1 ⟨rfl, q1⟩
  have HB1 := Lib.hid (below_call HB0.out q1)
  have HX1 := Lib.hid (HX0.out.call q1)
  clear q1 HB0 HX0
  clear c0 c1 c2 c3 c4 c5 c6 c7
  go_wp2_with fail
  refine (HE1.out _).mono ?_; rintro e w2 ⟨rfl, q2⟩
  have HB2 := Lib.hid (below_call HB1.out q2)
  have HX2 := Lib.hid (HX1.out.call q2)
  clear q2 HB1 HX1 HE1
  have c0 : w2.cell? ⟨w.heap.size, 0, none⟩ = some (.string L) := HX2.out.cell 0
  have c1 : w2.cell? ⟨w.heap.size, 1, none⟩ = some (.int .u8 op) := HX2.out.cell 1
  have c2 : w2.cell? ⟨w.heap.size, 2, none⟩ = some (.int .u8 dd) := HX2.out.cell 2
  have c3 : w2.cell? ⟨w.heap.size, 3, none⟩ = some (.int .u8 aa) := HX2.out.cell 3
  have c4 : w2.cell? ⟨w.heap.size, 4, none⟩ = some (.int .u8 bb) := HX2.out.cell 4
  have c5 : w2.cell? ⟨w.heap.size, 5, none⟩ = some (.int .u32 im) := HX2.out.cell 5
  have c6 : w2.cell? ⟨w.heap.size, 6, none⟩ = some (.string T) := HX2.out.cell 6
  have c7 : w2.cell? ⟨w.heap.size, 7, none⟩ = some (.string N) := HX2.out.cell 7
  cases ok1
  case false =>
    have hEf : E = false := by rw [HE.out]; rfl
    subst hEf
    simp only [erI]
    clear HE
    go_wp2_with fail
    go_ret
    exact ⟨rfl, HB2.out⟩
  simp only [erI]
  go_wp2_with fail
  refine (HN1.out _).mono ?_; rintro e w3 ⟨rfl, rfl⟩
  cases p1
  case false =>
    have hEf : E = false := by rw [HE.out]; cases p2 <;> cases p3 <;> cases qt <;> cases qn <;> cases ok2 <;> rfl
    subst hEf
    clear HE
    go_wp2_with fail
    go_ret
    exact ⟨rfl, HB2.out⟩
  go_wp2_with fail
  refine (HN2.out _).mono ?_; rintro e w3 ⟨rfl, rfl⟩
  cases p2
  case false =>
    have hEf : E = false := by rw [HE.out]; cases p3 <;> cases qt <;> cases qn <;> cases ok2 <;> rfl
    subst hEf
    clear HE
    go_wp2_with fail
    go_ret
    exact ⟨rfl, HB2.out⟩
  go_wp2_with fail
  refine (HN3.out _).mono ?_; rintro e w3 ⟨rfl, rfl⟩
  cases p3
  case false =>
    have hEf : E = false := by rw [HE.out]; cases qt <;> cases qn <;> cases ok2 <;> rfl
    subst hEf
    clear HE
    go_wp2_with fail
    go_ret
    exact ⟨rfl, HB2.out⟩
  cases qt <;> cases qn
  case false.false =>
    have hEf : E = false := by rw [HE.out]; cases ok2 <;> rfl
    subst hEf
    clear HE
    go_wp2_with fail
    go_ret
    exact ⟨rfl, HB2.out⟩
  case true.true =>
    have hEf : E = true := by rw [HE.out]; cases ok2 <;> rfl
    subst hEf
    clear HE
    go_wp2_with fail
    go_ret
    exact ⟨rfl, HB2.out⟩
  all_goals (
    have hEf : E = ok2 := by rw [HE.out]; cases ok2 <;> rfl
    subst hEf
    clear HE
    go_wp2_with fail
    refine (HBr.out _).mono ?_; rintro e w4 ⟨rfl, q4⟩
    have hsz4 := (below_call HB2.out q4).size
    have HB4 := Lib.hid (below_box (below_call HB2.out q4) (.cells #[.int .u8 op, .int .u8 dd, .int .u8 aa, .int .u8 bb, .int .u32 I0] 40))
    have HX4 := Lib.hid (Blk.new w4 40 [.int .u8 op, .int .u8 dd, .int .u8 aa, .int .u8 bb, .int .u32 I0])
    clear q4 HB2 HX2 c0 c1 c2 c3 c4 c5 c6 c7
    go_upto_region 7 with (fail)
    obtain ⟨g5, hg5⟩ : ∃ t, t = w4.heap.size := ⟨_, rfl⟩
    have HG5 : Hid (w.heap.size ≤ g5) := Lib.hid (by rw [hg5]; exact hsz4)
    clear hsz4
    obtain ⟨w5, hw5⟩ : ∃ t, t = w4.alloc (.cells #[.int .u8 op, .int .u8 dd, .int .u8 aa, .int .u8 bb, .int .u32 I0] 40) := ⟨_, rfl⟩
    rw [← hw5] at HB4 HX4 ⊢
    rw [← hg5] at HX4 ⊢
    clear hw5 hg5
    have j0 : w5.cell? ⟨g5, 4, none⟩ = some (.int .u32 I0) := HX4.out.cell 4
    have j1 : w5.frozen? ⟨g5, 4, none⟩ = false := HX4.out.frozen 4
    have j2 : g5 < w5.heap.size := HX4.out.lt
    go_upto_region 8 with (fail)
    have HX5 := Lib.hid (HX4.out.set_ 4 (.int .u32 4))
    simp only [List.set_cons_zero, List.set_cons_succ] at HX5
    have HB5 := Lib.hid (below_set HB4.out HG5.out 4 (.int .u32 4))
    obtain ⟨w6, hw6⟩ : ∃ t, t = w5.setCell ⟨g5, 4, none⟩ (.int .u32 4) := ⟨_, rfl⟩
    rw [← hw6] at HX5 HB5 ⊢
    clear hw6 j0 j1 j2 HX4 HB4
    have y0 : w6.cell? ⟨g5, 0, none⟩ = some (.int .u8 op) := HX5.out.cell 0
    have y1 : w6.cell? ⟨g5, 1, none⟩ = some (.int .u8 dd) := HX5.out.cell 1
    have y2 : w6.cell? ⟨g5, 2, none⟩ = some (.int .u8 aa) := HX5.out.cell 2
    have y3 : w6.cell? ⟨g5, 3, none⟩ = some (.int .u8 bb) := HX5.out.cell 3
    have y4 : w6.cell? ⟨g5, 4, none⟩ = some (.int .u32 4) := HX5.out.cell 4
    go_wp2_with fail
    refine (HE2.out _).mono ?_; rintro e w7 ⟨rfl, q7⟩
    have HB7 := Lib.hid (below_call HB5.out q7)
    clear q7 HB5 HX5 y0 y1 y2 y3 y4 HE2
    cases E
    all_goals (
      simp only [erI]
      go_wp2_with fail
      go_ret
      exact ⟨rfl, HB7.out⟩))
def findLV : Option Nat → Value
  | none => .tuple #[.int .i64 0, .bool false]
  | some i => .tuple #[.int .i64 (i : Int), .bool true]
set_option maxHeartbeats 4000000 in
set_option maxRecDepth 100000 in
theorem kfind_any (v : Value) (l : List Ln) (nm : ByteArray) (w : World) (hA : LinesAt w v l) (hl : l.length * 56 ≤ 140737488355328) :
    Calls Tryd.prog 37 #[v, .string nm] w fun e w' => e = .returned (findLV (findL l (by' nm))) ∧ w = w' := by
  obtain ⟨a, c, rfl, h2⟩ := hA
  obtain ⟨n, hn⟩ : ∃ n, n = l.length := ⟨_, rfl⟩
  have hni : (n : Int) ≤ 2513169434916 := by omega
  rw [← hn] at h2 ⊢
  have H2 := Lib.hid h2
  have HN := Lib.hid hn
  clear hn h2 hl
  go_enter Tryd.func37, Tryd.ntmps37
  go_wp2_with fail
  go_loop [6] (fun i => ∃ k : Nat, (k : Int) ≤ n ∧ i = .int .i64 k ∧ Hid (∀ j, j < k → (l.getD j Ln.nought).label ≠ by' nm)) (fun i => n - (intOf i).toNat)
  case atStart => exact ⟨0, by omega, rfl, Lib.hid fun j hj => absurd hj (by omega)⟩
  case round =>
    obtain ⟨k, hk, rfl, HK⟩ := hrel
    by_cases hlt : k < n
    · obtain ⟨b, o, rfl, hbl, hcl⟩ := H2.out (by omega)
      have c0 := (hcl k hlt).ln.1
      obtain ⟨U, hU⟩ : ∃ U, U = tx (l.getD k Ln.nought).label := ⟨_, rfl⟩
      rw [← hU] at c0
      have hbU : by' U = (l.getD k Ln.nought).label := by rw [hU, by_tx]
      have hd : decide (k < n) = true := decide_eq_true hlt
      have hs := str_eq U nm
      rw [hbU] at hs
      by_cases he : (l.getD k Ln.nought).label = by' nm
      · have HR : Hid (findL l (by' nm) = some k) := Lib.hid (findL_at (by rw [← HN.out]; exact hlt) he HK.out)
        rw [decide_eq_true he] at hs
        clear hU hbU he HK hcl
        go_wp2_with fail
        go_ret2
        exact ⟨by rw [HR.out]; rfl, rfl⟩
      · have HK2 : Hid (∀ j, j < k + 1 → (l.getD j Ln.nought).label ≠ by' nm) := Lib.hid fun j hj => by
          by_cases hx : j = k
          · subst hx; exact he
          · exact HK.out j (by omega)
        rw [decide_eq_false he] at hs
        clear hU hbU he HK hcl
        go_wp2_with fail
        go_round
        case rel => exact ⟨k + 1, by omega, by go_num, HK2⟩
        case measure => simp [intOf]; omega
    · have hd : decide (k < n) = false := decide_eq_false hlt
      have HR : Hid (findL l (by' nm) = none) := Lib.hid (findL_none fun j hj => HK.out j (by rw [← HN.out] at hj; omega))
      clear hlt HK
      go_wp2
      go_ret2
      exact ⟨by rw [HR.out]; rfl, rfl⟩
end Go.Proofs.YtlnnhgmkibjgmaaDoor
