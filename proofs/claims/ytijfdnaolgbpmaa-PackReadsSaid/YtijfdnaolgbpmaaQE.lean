/- What a reader's calls hand on to be read by (closures), and the calls themselves. -/
import Derived.Test.YtijfdnaolgbpmaaQD
import Derived.Deep.RegionHeld3
set_option linter.unusedVariables false
namespace Go.Proofs.Ytijfdnaolgbpmaa
open Go Go.RowKit Pk

section
variable {w w' : World} {p b1 b2 : Nat} {S : List UInt8} {r : Rd}
theorem PlAt.drewN (h : PlAt w p S) (n : Nat) : PlAt (w.drewN n) p S := h
/-- The two variables that a closure captures. -/
def Cap (w : World) (b1 b2 p : Nat) (n : Int) : Prop := w.cell? ⟨b1, 0, none⟩ = some (.pointer (some ⟨p, 0, none⟩)) ∧ w.cell? ⟨b2, 0, none⟩ = some (.int .i64 n)
theorem Cap.grown {n : Int} (h : Cap w b1 b2 p n) (hg : w.grownBy w' (some p)) (h1 : b1 ≠ p) (h2 : b2 ≠ p) : Cap w' b1 b2 p n :=
  ⟨hg.cell h.1 (fun e => h1 (Option.some.inj e)), hg.cell h.2 (fun e => h2 (Option.some.inj e))⟩

set_option maxHeartbeats 1000000 in
set_option maxRecDepth 100000 in
theorem cltake_any (n : Int) (w : World) (h : PlAt w p S) (hS : S.length ≤ 140737488355328) (hc : Cap w b1 b2 p n) (h1 : b1 ≠ p) (h2 : b2 ≠ p) :
    Calls Try.prog 34 #[.pointer (some ⟨b1, 0, none⟩), .pointer (some ⟨b2, 0, none⟩)] w (PlEnd w p (.string (tx (take ⟨S, 0⟩ n).1)) (take ⟨S, 0⟩ n).2.E (take ⟨S, 0⟩ n).2.S) := by
  have HT := Lib.hid (fun w1 (q : PlAt w1 p S) => pltake_any n w1 q hS)
  have H := Lib.hid h.drew
  obtain ⟨R, hR⟩ : ∃ R, R = take ⟨S, 0⟩ n := ⟨_, rfl⟩
  rw [← hR] at HT ⊢
  unfold PlPost at HT
  have hC : Cap w.drew b1 b2 p n := hc
  have HCG := Lib.hid (fun (wa wb : World) (hc : Cap wa b1 b2 p n) (hg : wa.grownBy wb (some p)) => hc.grown hg h1 h2)
  have HC := Lib.hid hC
  have hS1 := HC.out
  have HG0 := Lib.hid (grownB (row := some p) ((Below.refl w.heap.size w).drew))
  unfold Cap at hS1
  clear hR hS h h1 h2 hc hC
  go_enter Try.func34, Try.ntmps34
  go_upto_region 1 with (fail)
  go_region_held3 (fun w' => w'.cell? ⟨b1, 0, none⟩ = some (.pointer (some ⟨p, 0, none⟩)) ∧ w'.cell? ⟨b2, 0, none⟩ = some (.int .i64 n))
    (first | exact hS1 | exact hS2)
    ((first
      | (go_at_call 35; refine (HT.out _ H.out).mono ?_; rintro x w2 ⟨rfl, q, g⟩; have HH := Lib.hid (And.intro q (HG0.out.trans g)); have hS2 := HCG.out _ _ HC.out g; unfold Cap at hS2; clear q g)))
  go_wp2
  go_ret2
  exact ⟨rfl, ⟨_, HH.out.1, fun _ => rfl⟩, HH.out.2⟩
set_option maxHeartbeats 1000000 in
set_option maxRecDepth 100000 in
theorem clnum_any (n : Int) (w : World) (h : PlAt w p S) (hS : S.length ≤ 140737488355328) (hc : Cap w b1 b2 p n) (h1 : b1 ≠ p) (h2 : b2 ≠ p) :
    Calls Try.prog 38 #[.pointer (some ⟨b1, 0, none⟩), .pointer (some ⟨b2, 0, none⟩)] w (PlEnd w p (.int .u32 ((num ⟨S, 0⟩ n).1 : Nat)) (num ⟨S, 0⟩ n).2.E (num ⟨S, 0⟩ n).2.S) := by
  have HT := Lib.hid (fun w1 (q : PlAt w1 p S) => plnum_any n w1 q hS)
  have H := Lib.hid h.drew
  obtain ⟨R, hR⟩ : ∃ R, R = num ⟨S, 0⟩ n := ⟨_, rfl⟩
  rw [← hR] at HT ⊢
  unfold PlPost at HT
  have hC : Cap w.drew b1 b2 p n := hc
  have HCG := Lib.hid (fun (wa wb : World) (hc : Cap wa b1 b2 p n) (hg : wa.grownBy wb (some p)) => hc.grown hg h1 h2)
  have HC := Lib.hid hC
  have hS1 := HC.out
  have HG0 := Lib.hid (grownB (row := some p) ((Below.refl w.heap.size w).drew))
  unfold Cap at hS1
  clear hR hS h h1 h2 hc hC
  go_enter Try.func38, Try.ntmps38
  go_upto_region 1 with (fail)
  go_region_held3 (fun w' => w'.cell? ⟨b1, 0, none⟩ = some (.pointer (some ⟨p, 0, none⟩)) ∧ w'.cell? ⟨b2, 0, none⟩ = some (.int .i64 n))
    (first | exact hS1 | exact hS2)
    ((first
      | (go_at_call 39; refine (HT.out _ H.out).mono ?_; rintro x w2 ⟨rfl, q, g⟩; have HH := Lib.hid (And.intro q (HG0.out.trans g)); have hS2 := HCG.out _ _ HC.out g; unfold Cap at hS2; clear q g)))
  go_wp2
  go_ret2
  exact ⟨rfl, ⟨_, HH.out.1, fun _ => rfl⟩, HH.out.2⟩

set_option maxHeartbeats 1000000 in
set_option maxRecDepth 100000 in
theorem cltext_any (w : World) (h : PlAt w p S) (hS : S.length ≤ 140737488355328) (hc : w.cell? ⟨b1, 0, none⟩ = some (.pointer (some ⟨p, 0, none⟩))) :
    Calls Try.prog 40 #[.pointer (some ⟨b1, 0, none⟩)] w (PlEnd w p (.string (tx (text ⟨S, 0⟩).1)) (text ⟨S, 0⟩).2.E (text ⟨S, 0⟩).2.S) := by
  have HT := Lib.hid (pltext_any w h hS)
  obtain ⟨R, hR⟩ : ∃ R, R = text ⟨S, 0⟩ := ⟨_, rfl⟩
  rw [← hR] at HT ⊢
  unfold PlEnd at HT
  clear hR hS h
  go_enter Try.func40, Try.ntmps40
  go_wp2_with fail
  refine HT.out.mono ?_; rintro x w2 ⟨rfl, q, g⟩
  have HH := Lib.hid (And.intro q g)
  clear q g HT
  go_wp2
  go_ret2
  exact ⟨rfl, HH.out.1, HH.out.2⟩
set_option maxHeartbeats 1000000 in
set_option maxRecDepth 100000 in
theorem cltexts_any (w : World) (h : PlAt w p S) (hS : S.length ≤ 1099511627776) (hc : w.cell? ⟨b1, 0, none⟩ = some (.pointer (some ⟨p, 0, none⟩))) :
    Calls Try.prog 43 #[.pointer (some ⟨b1, 0, none⟩)] w (PlEndL w p (texts ⟨S, 0⟩).1 (texts ⟨S, 0⟩).2.E (texts ⟨S, 0⟩).2.S) := by
  have HT := Lib.hid (pltexts_any w h hS)
  obtain ⟨R, hR⟩ : ∃ R, R = texts ⟨S, 0⟩ := ⟨_, rfl⟩
  rw [← hR] at HT ⊢
  unfold PlEndL at HT
  clear hR hS h
  go_enter Try.func43, Try.ntmps43
  go_wp2_with fail
  refine HT.out.mono ?_; rintro x w2 ⟨v, rfl, o, q, g⟩
  obtain ⟨a, nn, c, rfl⟩ := OwnL.slice o
  have HH := Lib.hid (And.intro o (And.intro q g))
  clear o q g HT
  go_wp2
  go_ret2
  exact ⟨_, rfl, HH.out.1, HH.out.2.1, HH.out.2.2⟩

/-! the calls -/
theorem boxed (w : World) (x y : Value) (t u : TypeId) : ((w.alloc (.cells #[x] t)).alloc (.cells #[y] u)).cell? ⟨w.heap.size, 0, none⟩ = some x ∧ ((w.alloc (.cells #[x] t)).alloc (.cells #[y] u)).cell? ⟨w.heap.size + 1, 0, none⟩ = some y := by
  have h1 : Blk (w.alloc (.cells #[x] t)) w.heap.size t [x] := Blk.new w _ _
  have h2 : Blk ((w.alloc (.cells #[x] t)).alloc (.cells #[y] u)) (w.alloc (.cells #[x] t)).heap.size u [y] := Blk.new _ _ _
  have e : (w.alloc (.cells #[x] t)).heap.size = w.heap.size + 1 := by simp
  rw [e] at h2
  exact ⟨by rw [Blk.cell (h1.alloc _)]; rfl, by rw [Blk.cell h2]; rfl⟩
theorem boxed1 (w : World) (x : Value) (t : TypeId) : (w.alloc (.cells #[x] t)).cell? ⟨w.heap.size, 0, none⟩ = some x := by
  have h1 : Blk (w.alloc (.cells #[x] t)) w.heap.size t [x] := Blk.new w _ _
  rw [Blk.cell h1]; rfl
theorem below2 (w : World) (o o' : Obj) : Below w.heap.size w ((w.alloc o).alloc o') := ((Below.refl _ _).alloc (Nat.le_refl _) _).alloc (by simp) _
theorem below1 (w : World) (o : Obj) : Below w.heap.size w (w.alloc o) := (Below.refl _ _).alloc (Nat.le_refl _) _

set_option maxHeartbeats 1000000 in
set_option maxRecDepth 100000 in
theorem pdtake_any (n : Int) (w : World) (h : RpAt w p r) (hS : r.S.length ≤ 140737488355328) : Calls Try.prog 17 #[.pointer (some ⟨p, 0, none⟩), .int .i64 n] w (RpPost w p (.string (tx (take r n).1)) (take r n).2) := by
  obtain ⟨wb, hwb⟩ : ∃ wb, wb = (w.alloc (.cells #[.pointer (some ⟨p, 0, none⟩)] 35)).alloc (.cells #[.int .i64 n] 3) := ⟨_, rfl⟩
  have hbx := boxed w (.pointer (some ⟨p, 0, none⟩)) (.int .i64 n) 35 3
  have hbl := below2 w (.cells #[.pointer (some ⟨p, 0, none⟩)] 35) (.cells #[.int .i64 n] 3)
  rw [← hwb] at hbx hbl
  have hlt : p < w.heap.size := Blk.lt h
  have hsz : wb.heap.size = w.heap.size + 2 := by rw [hwb]; simp
  have HR := Lib.hid (readS_any 34 #[.pointer (some ⟨w.heap.size, 0, none⟩), .pointer (some ⟨w.heap.size + 1, 0, none⟩)] Try.call34 (take r n) wb (h.below hbl) (fun hE => take_fault' hE n) (fun _ => take_fault) (fun hE w1 q hb => by
    have e : r = ⟨r.S, 0⟩ := by rw [← hE]
    rw [e]
    exact cltake_any n w1 q hS ⟨(hb.cell (p := ⟨w.heap.size, 0, none⟩) (by rw [hsz]; simp)).trans hbx.1, (hb.cell (p := ⟨w.heap.size + 1, 0, none⟩) (by rw [hsz]; simp)).trans hbx.2⟩ (by omega) (by omega)))
  have HB := Lib.hid hbl
  have hx1 := hbx.1
  unfold RpPost at HR
  have HW := Lib.hid hwb
  obtain ⟨R, hR⟩ : ∃ R, R = take r n := ⟨_, rfl⟩
  rw [← hR] at HR ⊢
  clear hR hwb hbx hbl hsz hlt hS h
  go_enter Try.func17, Try.ntmps17
  go_wp2_with fail
  rw [← HW.out]
  refine HR.out.mono ?_; rintro x w2 ⟨rfl, q, g⟩
  have HH := Lib.hid (And.intro q g)
  clear q g HR
  go_wp2
  go_ret2
  exact ⟨rfl, HH.out.1, (grownB HB.out _).trans HH.out.2⟩
theorem num_fault' (h : r.E ≠ 0) (n : Int) : num r n = (0, r) := by unfold num; rw [if_neg (by omega), take_fault' h]; rfl
theorem text_fault' (h : r.E ≠ 0) : text r = ([], r) := by unfold text; rw [num_fault' h, if_pos h]
theorem texts_fault' (h : r.E ≠ 0) : texts r = ([], r) := by unfold texts; rw [num_fault' h, if_pos h]

set_option maxHeartbeats 1000000 in
set_option maxRecDepth 100000 in
theorem pdnum_any (n : Int) (w : World) (h : RpAt w p r) (hS : r.S.length ≤ 140737488355328) : Calls Try.prog 19 #[.pointer (some ⟨p, 0, none⟩), .int .i64 n] w (RpPost w p (.int .u32 ((num r n).1 : Nat)) (num r n).2) := by
  obtain ⟨wb, hwb⟩ : ∃ wb, wb = (w.alloc (.cells #[.pointer (some ⟨p, 0, none⟩)] 35)).alloc (.cells #[.int .i64 n] 3) := ⟨_, rfl⟩
  have hbx := boxed w (.pointer (some ⟨p, 0, none⟩)) (.int .i64 n) 35 3
  have hbl := below2 w (.cells #[.pointer (some ⟨p, 0, none⟩)] 35) (.cells #[.int .i64 n] 3)
  rw [← hwb] at hbx hbl
  have hlt : p < w.heap.size := Blk.lt h
  have hsz : wb.heap.size = w.heap.size + 2 := by rw [hwb]; simp
  have HR := Lib.hid (readN_any 38 #[.pointer (some ⟨w.heap.size, 0, none⟩), .pointer (some ⟨w.heap.size + 1, 0, none⟩)] Try.call38 (num r n) wb (h.below hbl) (fun hE => num_fault' hE n) (fun _ => num_fault) (fun hE w1 q hb => by
    have e : r = ⟨r.S, 0⟩ := by rw [← hE]
    rw [e]
    exact clnum_any n w1 q hS ⟨(hb.cell (p := ⟨w.heap.size, 0, none⟩) (by rw [hsz]; simp)).trans hbx.1, (hb.cell (p := ⟨w.heap.size + 1, 0, none⟩) (by rw [hsz]; simp)).trans hbx.2⟩ (by omega) (by omega)))
  have HB := Lib.hid hbl
  have hx1 := hbx.1
  unfold RpPost at HR
  have HW := Lib.hid hwb
  obtain ⟨R, hR⟩ : ∃ R, R = num r n := ⟨_, rfl⟩
  rw [← hR] at HR ⊢
  clear hR hwb hbx hbl hsz hlt hS h
  go_enter Try.func19, Try.ntmps19
  go_wp2_with fail
  rw [← HW.out]
  refine HR.out.mono ?_; rintro x w2 ⟨rfl, q, g⟩
  have HH := Lib.hid (And.intro q g)
  clear q g HR
  go_wp2
  go_ret2
  exact ⟨rfl, HH.out.1, (grownB HB.out _).trans HH.out.2⟩

set_option maxHeartbeats 1000000 in
set_option maxRecDepth 100000 in
theorem pdtext_any (w : World) (h : RpAt w p r) (hS : r.S.length ≤ 140737488355328) : Calls Try.prog 21 #[.pointer (some ⟨p, 0, none⟩)] w (RpPost w p (.string (tx (text r).1)) (text r).2) := by
  obtain ⟨wb, hwb⟩ : ∃ wb, wb = w.alloc (.cells #[.pointer (some ⟨p, 0, none⟩)] 35) := ⟨_, rfl⟩
  have hbx := boxed1 w (.pointer (some ⟨p, 0, none⟩)) 35
  have hbl := below1 w (.cells #[.pointer (some ⟨p, 0, none⟩)] 35)
  rw [← hwb] at hbx hbl
  have hsz : wb.heap.size = w.heap.size + 1 := by rw [hwb]; simp
  have HR := Lib.hid (readS_any 40 #[.pointer (some ⟨w.heap.size, 0, none⟩)] Try.call40 (text r) wb (h.below hbl) (fun hE => text_fault' hE) (fun _ => text_fault) (fun hE w1 q hb => by
    have e : r = ⟨r.S, 0⟩ := by rw [← hE]
    rw [e]
    exact cltext_any w1 q hS ((hb.cell (p := ⟨w.heap.size, 0, none⟩) (by rw [hsz]; simp)).trans hbx)))
  have HB := Lib.hid hbl
  have HZ := Lib.hid (show w.heap.size ≤ wb.heap.size by omega)
  unfold RpPost at HR
  have HW := Lib.hid hwb
  obtain ⟨R, hR⟩ : ∃ R, R = text r := ⟨_, rfl⟩
  rw [← hR] at HR ⊢
  clear hR hwb hbl hsz hS h
  go_enter Try.func21, Try.ntmps21
  go_wp2_with fail
  rw [← HW.out]
  refine HR.out.mono ?_; rintro x w2 ⟨rfl, q, g⟩
  skip
  have HH := Lib.hid (And.intro q g)
  clear q g HR
  go_wp2
  go_ret2
  exact ⟨rfl, HH.out.1, (grownB HB.out _).trans HH.out.2⟩

set_option maxHeartbeats 1000000 in
set_option maxRecDepth 100000 in
theorem pdtexts_any (w : World) (h : RpAt w p r) (hS : r.S.length ≤ 1099511627776) : Calls Try.prog 23 #[.pointer (some ⟨p, 0, none⟩)] w (RpPostL w p (texts r).1 (texts r).2) := by
  obtain ⟨wb, hwb⟩ : ∃ wb, wb = w.alloc (.cells #[.pointer (some ⟨p, 0, none⟩)] 35) := ⟨_, rfl⟩
  have hbx := boxed1 w (.pointer (some ⟨p, 0, none⟩)) 35
  have hbl := below1 w (.cells #[.pointer (some ⟨p, 0, none⟩)] 35)
  rw [← hwb] at hbx hbl
  have hsz : wb.heap.size = w.heap.size + 1 := by rw [hwb]; simp
  have HR := Lib.hid (readL_any 43 #[.pointer (some ⟨w.heap.size, 0, none⟩)] Try.call43 (texts r) wb (h.below hbl) (fun hE => texts_fault' hE) (fun _ => texts_fault) (fun hE w1 q hb => by
    have e : r = ⟨r.S, 0⟩ := by rw [← hE]
    rw [e]
    exact cltexts_any w1 q hS ((hb.cell (p := ⟨w.heap.size, 0, none⟩) (by rw [hsz]; simp)).trans hbx)))
  have HB := Lib.hid hbl
  have HZ := Lib.hid (show w.heap.size ≤ wb.heap.size by omega)
  unfold RpPostL at HR
  have HW := Lib.hid hwb
  obtain ⟨R, hR⟩ : ∃ R, R = texts r := ⟨_, rfl⟩
  rw [← hR] at HR ⊢
  clear hR hwb hbl hsz hS h
  go_enter Try.func23, Try.ntmps23
  go_wp2_with fail
  rw [← HW.out]
  refine HR.out.mono ?_; rintro x w2 ⟨v, rfl, o, q, g⟩
  obtain ⟨a, nn, c, rfl⟩ := OwnL.slice o
  have HH := Lib.hid (And.intro (OwnL.mono o HZ.out) (And.intro q g))
  clear o q g HR
  go_wp2
  go_ret2
  exact ⟨_, rfl, HH.out.1, HH.out.2.1, (grownB HB.out _).trans HH.out.2.2⟩
end
end Go.Proofs.Ytijfdnaolgbpmaa
