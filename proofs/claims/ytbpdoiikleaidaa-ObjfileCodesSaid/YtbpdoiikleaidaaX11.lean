/- Some texts of one proof, one behind the other; each has its own head below. -/
import Derived.Test.YtbpdoiikleaidaaX10
import Derived.Deep.RegionHeld3
/- What a reader's calls go through (read, at each of its types), given what it is handed to read by. -/
section
set_option linter.unusedVariables false
namespace Go.Proofs.Ytbpdoiikleaidaa
open Go Go.RowKit Pk

section
variable {w w' : World} {p : Nat} {r : Rd}
/-- The program's reader behind p. -/
def RpAt (w : World) (p : Nat) (r : Rd) : Prop := Blk w p 97 [.string (tx r.S), .int .i64 r.E]
theorem RpAt.cells (h : RpAt w p r) : w.cell? ⟨p, 0, none⟩ = some (.string (tx r.S)) ∧ w.cell? ⟨p, 1, none⟩ = some (.int .i64 r.E) ∧ w.frozen? ⟨p, 0, none⟩ = false ∧ w.frozen? ⟨p, 1, none⟩ = false :=
  ⟨by rw [Blk.cell h]; rfl, by rw [Blk.cell h]; rfl, Blk.frozen h 0, Blk.frozen h 1⟩
theorem RpAt.below (h : RpAt w p r) (hb : Below w.heap.size w w') : RpAt w' p r := Blk.below h hb (Blk.lt h)
theorem RpAt.pl (h : RpAt w p r) (hE : r.E = 0) : PlAt w p r.S := by unfold RpAt at h; rw [hE] at h; exact h
theorem PlAt.rp {S : List UInt8} (h : PlAt w p S) : RpAt w p ⟨S, 0⟩ := h
theorem RpAt.fails {S S' : List UInt8} (h : PlAt w p S') (E : Int) : RpAt ((w.setCell ⟨p, 0, none⟩ (.string (tx S))).setCell ⟨p, 1, none⟩ (.int .i64 E)) p ⟨S, E⟩ := Blk.set_ (Blk.set_ h 0 _) 1 _
theorem RpAt.fails' {S S' : List UInt8} (h : PlAt w p S') (E : Int) : RpAt ((w.setCell ⟨p, 1, none⟩ (.int .i64 E)).setCell ⟨p, 0, none⟩ (.string (tx S))) p ⟨S, E⟩ := Blk.set_ (Blk.set_ h 1 _) 0 _
def RpPost (w : World) (p : Nat) (v : Value) (r : Rd) (x : Ending) (w' : World) : Prop := x = .returned (.tuple #[v, .int .i64 r.E]) ∧ RpAt w' p r ∧ w.grownBy w' (some p)
set_option maxRecDepth 100000 in
theorem fault_any (E : Int) (w : World) (h : w.cell? ⟨p, 1, none⟩ = some (.int .i64 E)) : Calls Try.prog 47 #[.pointer (some ⟨p, 0, none⟩)] w fun x w' => x = .returned (.int .i64 E) ∧ w = w' := by
  go_enter Try.func47, Try.ntmps47
  go_wp2
  go_ret
  exact ⟨rfl, rfl⟩
theorem fault_nil (w : World) : Calls Try.prog 47 #[.pointer none] w fun x w' => x = .returned (.int .i64 1) ∧ w = w' := by
  go_enter Try.func47, Try.ntmps47
  go_wp2
  go_ret
  exact ⟨rfl, rfl⟩
/-- A place that is kept beside. -/
theorem kept_place (h : RpAt w p r) (hE : r.E = 0) (T : ByteArray) : PlAt (w.alloc (.cells #[.string T] 95)) p r.S ∧ Below w.heap.size w (w.alloc (.cells #[.string T] 95)) := by
  have hb : Below w.heap.size w (w.alloc (.cells #[.string T] 95)) := (Below.refl _ _).alloc (Nat.le_refl _) _
  exact ⟨(h.pl hE).below hb, hb⟩
theorem kept_cell (w : World) (T : ByteArray) : (w.alloc (.cells #[.string T] 95)).cell? ⟨w.heap.size, 0, none⟩ = some (.string T) := by
  have h : Blk (w.alloc (.cells #[.string T] 95)) w.heap.size 95 [.string T] := Blk.new w _ _
  rw [Blk.cell h]; rfl
theorem kept_size (w : World) (T : ByteArray) : (w.alloc (.cells #[.string T] 95)).heap.size = w.heap.size + 1 := by simp

set_option maxHeartbeats 2000000 in
set_option maxRecDepth 100000 in
theorem readS_any (K : Nat) (caps : Array Value) (hK : ∀ (args : Array Value) (w : World), (callFunc K args).run Try.prog w = .ok (.enter K args) w) (R : List UInt8 × Rd) (w : World) (h : RpAt w p r)
    (h1 : r.E ≠ 0 → R = (([] : List UInt8), r)) (h2 : r.E = 0 → R.2.E ≠ 0 → R.1 = ([] : List UInt8) ∧ R.2.S = r.S)
    (HC : r.E = 0 → ∀ w1, PlAt w1 p r.S → Below w.heap.size w w1 → Calls Try.prog K caps w1 (PlEnd w1 p (.string (tx R.1)) R.2.E R.2.S)) :
    Calls Try.prog 78 #[.pointer (some ⟨p, 0, none⟩), .func (.func K) #[] caps] w (RpPost w p (.string (tx R.1)) R.2) := by
  obtain ⟨c0, c1, f0, f1⟩ := h.cells
  have H := Lib.hid h
  by_cases hE : r.E = 0
  · rw [hE] at c1
    have HF := Lib.hid (fun w1 => fault_any (p := p) 0 w1)
    have HP := Lib.hid (fun T => kept_place h hE T)
    have h2 := h2 hE
    have HC := Lib.hid (HC hE)
    have hlt : p < w.heap.size := Blk.lt h
    obtain ⟨L, ⟨S2, E2⟩⟩ := R
    simp only at HC h2 ⊢
    by_cases h0 : E2 = 0
    · subst h0
      clear h2 h1 hE h
      go_enter Try.func78, Try.ntmps78
      go_wp2_with fail
      refine (HF.out _ c1).mono ?_; rintro x w1 ⟨rfl, rfl⟩
      clear HF
      go_wp2_with fail
      refine (HC.out _ (HP.out _).1 (HP.out _).2).mono ?_; rintro x w2 ⟨rfl, ⟨S', q1, e1⟩, g1⟩
      have HB := Lib.hid (HP.out (tx r.S)).2
      have HH := Lib.hid (And.intro q1 g1)
      obtain rfl := e1 (by trivial)
      clear e1 q1 g1 HC HP
      go_wp2
      go_ret2
      exact ⟨rfl, HH.out.1.rp, (grownB HB.out _).trans HH.out.2⟩
    · obtain ⟨l1, l2⟩ := h2 h0
      have hb : (E2 != 0) = true := by rw [bne_iff_ne]; exact h0
      subst l1
      have HS : Hid (S2 = r.S) := Lib.hid l2
      clear l2 h1 hE h h2 h0
      obtain ⟨T, hT⟩ : ∃ T, T = tx r.S := ⟨_, rfl⟩
      have HT := Lib.hid hT
      rw [← hT] at c0
      clear hT
      go_enter Try.func78, Try.ntmps78
      go_wp2_with fail
      refine (HF.out _ c1).mono ?_; rintro x w1 ⟨rfl, rfl⟩
      clear HF
      go_wp2_with fail
      refine (HC.out _ (HP.out _).1 (HP.out _).2).mono ?_; rintro x w2 ⟨rfl, ⟨S', q1, _⟩, g1⟩
      have HB := Lib.hid (HP.out T).2
      have HH := Lib.hid (And.intro q1 g1)
      have k0 : w2.cell? ⟨w.heap.size, 0, none⟩ = some (.string T) := (World.cell?_of_block (g1.block w.heap.size (by rw [kept_size]; omega) (by intro hc; cases hc; omega))).trans (kept_cell w T)
      obtain ⟨d0, d1, d2, d3⟩ := q1.cells
      have HF1 := Lib.hid (RpAt.fails (S := r.S) q1 E2)
      have HF2 := Lib.hid (RpAt.fails' (S := r.S) q1 E2)
      rw [← HT.out] at HF1 HF2
      skip
      clear q1 g1 HC HP c0 c1 f0 f1
      go_wp2
      go_ret2
      exact ⟨rfl, by rw [HS.out]; exact HF1.out, ((grownB HB.out _).trans HH.out.2).trans ((grown_set _ _ _ _).trans (grown_set _ _ _ _))⟩
  · rw [h1 hE]
    obtain ⟨E, hEE⟩ : ∃ E, E = r.E := ⟨_, rfl⟩
    have hb : (E != 0) = true := by rw [bne_iff_ne, hEE]; exact hE
    have HF := Lib.hid (fun w1 => fault_any (p := p) E w1)
    rw [← hEE] at c1
    have HEE := Lib.hid hEE
    clear hE hEE h h1 h2 HC
    go_enter Try.func78, Try.ntmps78
    go_wp2_with fail
    refine (HF.out _ c1).mono ?_; rintro x w1 ⟨rfl, rfl⟩
    clear HF
    go_wp2
    go_ret2
    exact ⟨by rw [← HEE.out]; rfl, H.out, World.grownBy.refl _ _⟩
theorem readS_nil (f : Value) (w : World) : Calls Try.prog 78 #[.pointer none, f] w fun x w' => x = .returned (.tuple #[.string ⟨#[]⟩, .int .i64 1]) ∧ w = w' := by
  go_enter Try.func78, Try.ntmps78
  go_wp2_with fail
  refine (fault_nil _).mono ?_; rintro x w1 ⟨rfl, rfl⟩
  go_wp2
  go_ret2
  exact ⟨rfl, rfl⟩

set_option maxHeartbeats 2000000 in
set_option maxRecDepth 100000 in
theorem readN_any (K : Nat) (caps : Array Value) (hK : ∀ (args : Array Value) (w : World), (callFunc K args).run Try.prog w = .ok (.enter K args) w) (R : Nat × Rd) (w : World) (h : RpAt w p r)
    (h1 : r.E ≠ 0 → R = ((0 : Nat), r)) (h2 : r.E = 0 → R.2.E ≠ 0 → R.1 = (0 : Nat) ∧ R.2.S = r.S)
    (HC : r.E = 0 → ∀ w1, PlAt w1 p r.S → Below w.heap.size w w1 → Calls Try.prog K caps w1 (PlEnd w1 p (.int .u32 (R.1 : Nat)) R.2.E R.2.S)) :
    Calls Try.prog 87 #[.pointer (some ⟨p, 0, none⟩), .func (.func K) #[] caps] w (RpPost w p (.int .u32 (R.1 : Nat)) R.2) := by
  obtain ⟨c0, c1, f0, f1⟩ := h.cells
  have H := Lib.hid h
  by_cases hE : r.E = 0
  · rw [hE] at c1
    have HF := Lib.hid (fun w1 => fault_any (p := p) 0 w1)
    have HP := Lib.hid (fun T => kept_place h hE T)
    have h2 := h2 hE
    have HC := Lib.hid (HC hE)
    have hlt : p < w.heap.size := Blk.lt h
    obtain ⟨L, ⟨S2, E2⟩⟩ := R
    simp only at HC h2 ⊢
    by_cases h0 : E2 = 0
    · subst h0
      clear h2 h1 hE h
      go_enter Try.func87, Try.ntmps87
      go_wp2_with fail
      refine (HF.out _ c1).mono ?_; rintro x w1 ⟨rfl, rfl⟩
      clear HF
      go_wp2_with fail
      refine (HC.out _ (HP.out _).1 (HP.out _).2).mono ?_; rintro x w2 ⟨rfl, ⟨S', q1, e1⟩, g1⟩
      have HB := Lib.hid (HP.out (tx r.S)).2
      have HH := Lib.hid (And.intro q1 g1)
      obtain rfl := e1 (by trivial)
      clear e1 q1 g1 HC HP
      go_wp2
      go_ret2
      exact ⟨rfl, HH.out.1.rp, (grownB HB.out _).trans HH.out.2⟩
    · obtain ⟨l1, l2⟩ := h2 h0
      have hb : (E2 != 0) = true := by rw [bne_iff_ne]; exact h0
      subst l1
      have HS : Hid (S2 = r.S) := Lib.hid l2
      clear l2 h1 hE h h2 h0
      obtain ⟨T, hT⟩ : ∃ T, T = tx r.S := ⟨_, rfl⟩
      have HT := Lib.hid hT
      rw [← hT] at c0
      clear hT
      go_enter Try.func87, Try.ntmps87
      go_wp2_with fail
      refine (HF.out _ c1).mono ?_; rintro x w1 ⟨rfl, rfl⟩
      clear HF
      go_wp2_with fail
      refine (HC.out _ (HP.out _).1 (HP.out _).2).mono ?_; rintro x w2 ⟨rfl, ⟨S', q1, _⟩, g1⟩
      have HB := Lib.hid (HP.out T).2
      have HH := Lib.hid (And.intro q1 g1)
      have k0 : w2.cell? ⟨w.heap.size, 0, none⟩ = some (.string T) := (World.cell?_of_block (g1.block w.heap.size (by rw [kept_size]; omega) (by intro hc; cases hc; omega))).trans (kept_cell w T)
      obtain ⟨d0, d1, d2, d3⟩ := q1.cells
      have HF1 := Lib.hid (RpAt.fails (S := r.S) q1 E2)
      have HF2 := Lib.hid (RpAt.fails' (S := r.S) q1 E2)
      rw [← HT.out] at HF1 HF2
      skip
      clear q1 g1 HC HP c0 c1 f0 f1
      go_wp2
      go_ret2
      exact ⟨rfl, by rw [HS.out]; exact HF1.out, ((grownB HB.out _).trans HH.out.2).trans ((grown_set _ _ _ _).trans (grown_set _ _ _ _))⟩
  · rw [h1 hE]
    obtain ⟨E, hEE⟩ : ∃ E, E = r.E := ⟨_, rfl⟩
    have hb : (E != 0) = true := by rw [bne_iff_ne, hEE]; exact hE
    have HF := Lib.hid (fun w1 => fault_any (p := p) E w1)
    rw [← hEE] at c1
    have HEE := Lib.hid hEE
    clear hE hEE h h1 h2 HC
    go_enter Try.func87, Try.ntmps87
    go_wp2_with fail
    refine (HF.out _ c1).mono ?_; rintro x w1 ⟨rfl, rfl⟩
    clear HF
    go_wp2
    go_ret2
    exact ⟨by rw [← HEE.out]; rfl, H.out, World.grownBy.refl _ _⟩
theorem readN_nil (f : Value) (w : World) : Calls Try.prog 87 #[.pointer none, f] w fun x w' => x = .returned (.tuple #[.int .u32 0, .int .i64 1]) ∧ w = w' := by
  go_enter Try.func87, Try.ntmps87
  go_wp2_with fail
  refine (fault_nil _).mono ?_; rintro x w1 ⟨rfl, rfl⟩
  go_wp2
  go_ret2
  exact ⟨rfl, rfl⟩

end
end Go.Proofs.Ytbpdoiikleaidaa
end

/- What a reader's calls hand on to be read by (closures), and the calls themselves. -/
section
set_option linter.unusedVariables false
namespace Go.Proofs.Ytbpdoiikleaidaa
open Go Go.RowKit Pk

section
variable {w w' : World} {p b1 b2 : Nat} {S : List UInt8} {r : Rd}
theorem PlAt.drewN (h : PlAt w p S) (n : Nat) : PlAt (w.drewN n) p S := h
/-- The two variables that a closure captures. -/
def Cap (w : World) (b1 b2 p : Nat) (n : Int) : Prop := w.cell? ⟨b1, 0, none⟩ = some (.pointer (some ⟨p, 0, none⟩)) ∧ w.cell? ⟨b2, 0, none⟩ = some (.int .i64 n)
theorem Cap.grown {n : Int} (h : Cap w b1 b2 p n) (hg : w.grownBy w' (some p)) (h1 : b1 ≠ p) (h2 : b2 ≠ p) : Cap w' b1 b2 p n :=
  ⟨hg.cell h.1 (fun e => h1 (Option.some.inj e)), hg.cell h.2 (fun e => h2 (Option.some.inj e))⟩

set_option maxHeartbeats 1000000 in
set_option maxRecDepth 100000 in
theorem clnum_any (n : Int) (w : World) (h : PlAt w p S) (hS : S.length ≤ 140737488355328) (hc : Cap w b1 b2 p n) (h1 : b1 ≠ p) (h2 : b2 ≠ p) :
    Calls Try.prog 88 #[.pointer (some ⟨b1, 0, none⟩), .pointer (some ⟨b2, 0, none⟩)] w (PlEnd w p (.int .u32 ((num ⟨S, 0⟩ n).1 : Nat)) (num ⟨S, 0⟩ n).2.E (num ⟨S, 0⟩ n).2.S) := by
  have HT := Lib.hid (fun w1 (q : PlAt w1 p S) => plnum_any n w1 q hS)
  have H := Lib.hid h.drew
  obtain ⟨R, hR⟩ : ∃ R, R = num ⟨S, 0⟩ n := ⟨_, rfl⟩
  rw [← hR] at HT ⊢
  unfold PlPost at HT
  have hC : Cap w.drew b1 b2 p n := hc
  have HCG := Lib.hid (fun (wa wb : World) (hc : Cap wa b1 b2 p n) (hg : wa.grownBy wb (some p)) => hc.grown hg h1 h2)
  have HC := Lib.hid hC
  have hS1 := HC.out
  have HG0 := Lib.hid (grownB (row := some p) ((Below.refl w.heap.size w).drew))
  unfold Cap at hS1
  clear hR hS h h1 h2 hc hC
  go_enter Try.func88, Try.ntmps88
  go_upto_region 1 with (fail)
  go_region_held3 (fun w' => w'.cell? ⟨b1, 0, none⟩ = some (.pointer (some ⟨p, 0, none⟩)) ∧ w'.cell? ⟨b2, 0, none⟩ = some (.int .i64 n))
    (first | exact hS1 | exact hS2)
    ((first
      | (go_at_call 85; refine (HT.out _ H.out).mono ?_; rintro x w2 ⟨rfl, q, g⟩; have HH := Lib.hid (And.intro q (HG0.out.trans g)); have hS2 := HCG.out _ _ HC.out g; unfold Cap at hS2; clear q g)))
  go_wp2
  go_ret2
  exact ⟨rfl, ⟨_, HH.out.1, fun _ => rfl⟩, HH.out.2⟩

set_option maxHeartbeats 1000000 in
set_option maxRecDepth 100000 in
theorem cltext_any (w : World) (h : PlAt w p S) (hS : S.length ≤ 140737488355328) (hc : w.cell? ⟨b1, 0, none⟩ = some (.pointer (some ⟨p, 0, none⟩))) :
    Calls Try.prog 79 #[.pointer (some ⟨b1, 0, none⟩)] w (PlEnd w p (.string (tx (text ⟨S, 0⟩).1)) (text ⟨S, 0⟩).2.E (text ⟨S, 0⟩).2.S) := by
  have HT := Lib.hid (pltext_any w h hS)
  obtain ⟨R, hR⟩ : ∃ R, R = text ⟨S, 0⟩ := ⟨_, rfl⟩
  rw [← hR] at HT ⊢
  unfold PlEnd at HT
  clear hR hS h
  go_enter Try.func79, Try.ntmps79
  go_wp2_with fail
  refine HT.out.mono ?_; rintro x w2 ⟨rfl, q, g⟩
  have HH := Lib.hid (And.intro q g)
  clear q g HT
  go_wp2
  go_ret2
  exact ⟨rfl, HH.out.1, HH.out.2⟩
/-! the calls -/
theorem boxed (w : World) (x y : Value) (t u : TypeId) : ((w.alloc (.cells #[x] t)).alloc (.cells #[y] u)).cell? ⟨w.heap.size, 0, none⟩ = some x ∧ ((w.alloc (.cells #[x] t)).alloc (.cells #[y] u)).cell? ⟨w.heap.size + 1, 0, none⟩ = some y := by
  have h1 : Blk (w.alloc (.cells #[x] t)) w.heap.size t [x] := Blk.new w _ _
  have h2 : Blk ((w.alloc (.cells #[x] t)).alloc (.cells #[y] u)) (w.alloc (.cells #[x] t)).heap.size u [y] := Blk.new _ _ _
  have e : (w.alloc (.cells #[x] t)).heap.size = w.heap.size + 1 := by simp
  rw [e] at h2
  exact ⟨by rw [Blk.cell (h1.alloc _)]; rfl, by rw [Blk.cell h2]; rfl⟩
theorem boxed1 (w : World) (x : Value) (t : TypeId) : (w.alloc (.cells #[x] t)).cell? ⟨w.heap.size, 0, none⟩ = some x := by
  have h1 : Blk (w.alloc (.cells #[x] t)) w.heap.size t [x] := Blk.new w _ _
  rw [Blk.cell h1]; rfl
theorem below2 (w : World) (o o' : Obj) : Below w.heap.size w ((w.alloc o).alloc o') := ((Below.refl _ _).alloc (Nat.le_refl _) _).alloc (by simp) _
theorem below1 (w : World) (o : Obj) : Below w.heap.size w (w.alloc o) := (Below.refl _ _).alloc (Nat.le_refl _) _

theorem num_fault' (h : r.E ≠ 0) (n : Int) : num r n = (0, r) := by unfold num; rw [if_neg (by omega), take_fault' h]; rfl
theorem text_fault' (h : r.E ≠ 0) : text r = ([], r) := by unfold text; rw [num_fault' h, if_pos h]
set_option maxHeartbeats 1000000 in
set_option maxRecDepth 100000 in
theorem pdnum_any (n : Int) (w : World) (h : RpAt w p r) (hS : r.S.length ≤ 140737488355328) : Calls Try.prog 81 #[.pointer (some ⟨p, 0, none⟩), .int .i64 n] w (RpPost w p (.int .u32 ((num r n).1 : Nat)) (num r n).2) := by
  obtain ⟨wb, hwb⟩ : ∃ wb, wb = (w.alloc (.cells #[.pointer (some ⟨p, 0, none⟩)] 68)).alloc (.cells #[.int .i64 n] 3) := ⟨_, rfl⟩
  have hbx := boxed w (.pointer (some ⟨p, 0, none⟩)) (.int .i64 n) 68 3
  have hbl := below2 w (.cells #[.pointer (some ⟨p, 0, none⟩)] 68) (.cells #[.int .i64 n] 3)
  rw [← hwb] at hbx hbl
  have hlt : p < w.heap.size := Blk.lt h
  have hsz : wb.heap.size = w.heap.size + 2 := by rw [hwb]; simp
  have HR := Lib.hid (readN_any 88 #[.pointer (some ⟨w.heap.size, 0, none⟩), .pointer (some ⟨w.heap.size + 1, 0, none⟩)] Try.call88 (num r n) wb (h.below hbl) (fun hE => num_fault' hE n) (fun _ => num_fault) (fun hE w1 q hb => by
    have e : r = ⟨r.S, 0⟩ := by rw [← hE]
    rw [e]
    exact clnum_any n w1 q hS ⟨(hb.cell (p := ⟨w.heap.size, 0, none⟩) (by rw [hsz]; simp)).trans hbx.1, (hb.cell (p := ⟨w.heap.size + 1, 0, none⟩) (by rw [hsz]; simp)).trans hbx.2⟩ (by omega) (by omega)))
  have HB := Lib.hid hbl
  have hx1 := hbx.1
  unfold RpPost at HR
  have HW := Lib.hid hwb
  obtain ⟨R, hR⟩ : ∃ R, R = num r n := ⟨_, rfl⟩
  rw [← hR] at HR ⊢
  clear hR hwb hbx hbl hsz hlt hS h
  go_enter Try.func81, Try.ntmps81
  go_wp2_with fail
  rw [← HW.out]
  refine HR.out.mono ?_; rintro x w2 ⟨rfl, q, g⟩
  have HH := Lib.hid (And.intro q g)
  clear q g HR
  go_wp2
  go_ret2
  exact ⟨rfl, HH.out.1, (grownB HB.out _).trans HH.out.2⟩

set_option maxHeartbeats 1000000 in
set_option maxRecDepth 100000 in
theorem pdtext_any (w : World) (h : RpAt w p r) (hS : r.S.length ≤ 140737488355328) : Calls Try.prog 62 #[.pointer (some ⟨p, 0, none⟩)] w (RpPost w p (.string (tx (text r).1)) (text r).2) := by
  obtain ⟨wb, hwb⟩ : ∃ wb, wb = w.alloc (.cells #[.pointer (some ⟨p, 0, none⟩)] 68) := ⟨_, rfl⟩
  have hbx := boxed1 w (.pointer (some ⟨p, 0, none⟩)) 68
  have hbl := below1 w (.cells #[.pointer (some ⟨p, 0, none⟩)] 68)
  rw [← hwb] at hbx hbl
  have hsz : wb.heap.size = w.heap.size + 1 := by rw [hwb]; simp
  have HR := Lib.hid (readS_any 79 #[.pointer (some ⟨w.heap.size, 0, none⟩)] Try.call79 (text r) wb (h.below hbl) (fun hE => text_fault' hE) (fun _ => text_fault) (fun hE w1 q hb => by
    have e : r = ⟨r.S, 0⟩ := by rw [← hE]
    rw [e]
    exact cltext_any w1 q hS ((hb.cell (p := ⟨w.heap.size, 0, none⟩) (by rw [hsz]; simp)).trans hbx)))
  have HB := Lib.hid hbl
  have HZ := Lib.hid (show w.heap.size ≤ wb.heap.size by omega)
  unfold RpPost at HR
  have HW := Lib.hid hwb
  obtain ⟨R, hR⟩ : ∃ R, R = text r := ⟨_, rfl⟩
  rw [← hR] at HR ⊢
  clear hR hwb hbl hsz hS h
  go_enter Try.func62, Try.ntmps62
  go_wp2_with fail
  rw [← HW.out]
  refine HR.out.mono ?_; rintro x w2 ⟨rfl, q, g⟩
  skip
  have HH := Lib.hid (And.intro q g)
  clear q g HR
  go_wp2
  go_ret2
  exact ⟨rfl, HH.out.1, (grownB HB.out _).trans HH.out.2⟩

end
end Go.Proofs.Ytbpdoiikleaidaa
end
