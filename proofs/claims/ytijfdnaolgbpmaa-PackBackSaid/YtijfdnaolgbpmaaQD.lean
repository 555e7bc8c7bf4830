/- What a reader's calls go through (read, at each of its types), given what it is handed to read by. -/
import Derived.Test.YtijfdnaolgbpmaaQC
import Derived.Test.YtijfdnaolgbpmaaPJ
set_option linter.unusedVariables false
namespace Go.Proofs.Ytijfdnaolgbpmaa
open Go Go.RowKit Pk

section
variable {w w' : World} {p : Nat} {r : Rd}
/-- The program's reader behind p. -/
def RpAt (w : World) (p : Nat) (r : Rd) : Prop := Blk w p 66 [.string (tx r.S), .int .i64 r.E]
theorem RpAt.cells (h : RpAt w p r) : w.cell? ⟨p, 0, none⟩ = some (.string (tx r.S)) ∧ w.cell? ⟨p, 1, none⟩ = some (.int .i64 r.E) ∧ w.frozen? ⟨p, 0, none⟩ = false ∧ w.frozen? ⟨p, 1, none⟩ = false :=
  ⟨by rw [Blk.cell h]; rfl, by rw [Blk.cell h]; rfl, Blk.frozen h 0, Blk.frozen h 1⟩
theorem RpAt.below (h : RpAt w p r) (hb : Below w.heap.size w w') : RpAt w' p r := Blk.below h hb (Blk.lt h)
theorem RpAt.pl (h : RpAt w p r) (hE : r.E = 0) : PlAt w p r.S := by unfold RpAt at h; rw [hE] at h; exact h
theorem PlAt.rp {S : List UInt8} (h : PlAt w p S) : RpAt w p ⟨S, 0⟩ := h
theorem RpAt.fails {S S' : List UInt8} (h : PlAt w p S') (E : Int) : RpAt ((w.setCell ⟨p, 0, none⟩ (.string (tx S))).setCell ⟨p, 1, none⟩ (.int .i64 E)) p ⟨S, E⟩ := Blk.set_ (Blk.set_ h 0 _) 1 _
theorem RpAt.fails' {S S' : List UInt8} (h : PlAt w p S') (E : Int) : RpAt ((w.setCell ⟨p, 1, none⟩ (.int .i64 E)).setCell ⟨p, 0, none⟩ (.string (tx S))) p ⟨S, E⟩ := Blk.set_ (Blk.set_ h 1 _) 0 _
def RpPost (w : World) (p : Nat) (v : Value) (r : Rd) (x : Ending) (w' : World) : Prop := x = .returned (.tuple #[v, .int .i64 r.E]) ∧ RpAt w' p r ∧ w.grownBy w' (some p)
def RpPostL (w : World) (p : Nat) (L : List (List UInt8)) (r : Rd) (x : Ending) (w' : World) : Prop := ∃ v, x = .returned (.tuple #[v, .int .i64 r.E]) ∧ OwnL w.heap.size L v w' ∧ RpAt w' p r ∧ w.grownBy w' (some p)
theorem OwnL.mono {B B' : Nat} {L : List (List UInt8)} {v : Value} (h : OwnL B L v w) (hB : B' ≤ B) : OwnL B' L v w := by
  unfold OwnL at h ⊢
  refine ⟨h.1, ?_⟩
  rcases h.2 with h2 | ⟨g, cap, cur, h3, h4, h5⟩
  · exact .inl h2
  · exact .inr ⟨g, cap, cur, h3, by omega, h5⟩

set_option maxRecDepth 100000 in
theorem fault_any (E : Int) (w : World) (h : w.cell? ⟨p, 1, none⟩ = some (.int .i64 E)) : Calls Try.prog 28 #[.pointer (some ⟨p, 0, none⟩)] w fun x w' => x = .returned (.int .i64 E) ∧ w = w' := by
  go_enter Try.func28, Try.ntmps28
  go_wp2
  go_ret
  exact ⟨rfl, rfl⟩
theorem fault_nil (w : World) : Calls Try.prog 28 #[.pointer none] w fun x w' => x = .returned (.int .i64 1) ∧ w = w' := by
  go_enter Try.func28, Try.ntmps28
  go_wp2
  go_ret
  exact ⟨rfl, rfl⟩
/-- A place that is kept beside. -/
theorem kept_place (h : RpAt w p r) (hE : r.E = 0) (T : ByteArray) : PlAt (w.alloc (.cells #[.string T] 64)) p r.S ∧ Below w.heap.size w (w.alloc (.cells #[.string T] 64)) := by
  have hb : Below w.heap.size w (w.alloc (.cells #[.string T] 64)) := (Below.refl _ _).alloc (Nat.le_refl _) _
  exact ⟨(h.pl hE).below hb, hb⟩
theorem kept_cell (w : World) (T : ByteArray) : (w.alloc (.cells #[.string T] 64)).cell? ⟨w.heap.size, 0, none⟩ = some (.string T) := by
  have h : Blk (w.alloc (.cells #[.string T] 64)) w.heap.size 64 [.string T] := Blk.new w _ _
  rw [Blk.cell h]; rfl
theorem kept_size (w : World) (T : ByteArray) : (w.alloc (.cells #[.string T] 64)).heap.size = w.heap.size + 1 := by simp

set_option maxHeartbeats 2000000 in
set_option maxRecDepth 100000 in
theorem readS_any (K : Nat) (caps : Array Value) (hK : ∀ (args : Array Value) (w : World), (callFunc K args).run Try.prog w = .ok (.enter K args) w) (R : List UInt8 × Rd) (w : World) (h : RpAt w p r)
    (h1 : r.E ≠ 0 → R = (([] : List UInt8), r)) (h2 : r.E = 0 → R.2.E ≠ 0 → R.1 = ([] : List UInt8) ∧ R.2.S = r.S)
    (HC : r.E = 0 → ∀ w1, PlAt w1 p r.S → Below w.heap.size w w1 → Calls Try.prog K caps w1 (PlEnd w1 p (.string (tx R.1)) R.2.E R.2.S)) :
    Calls Try.prog 33 #[.pointer (some ⟨p, 0, none⟩), .func (.func K) #[] caps] w (RpPost w p (.string (tx R.1)) R.2) := by
  obtain ⟨c0, c1, f0, f1⟩ := h.cells
  have H := Lib.hid h
  by_cases hE : r.E = 0
  · rw [hE] at c1
    have HF := Lib.hid (fun w1 => fault_any (p := p) 0 w1)
    have HP := Lib.hid (fun T => kept_place h hE T)
    have h2 := h2 hE
    have HC := Lib.hid (HC hE)
    have hlt : p < w.heap.size := Blk.lt h
    obtain ⟨L, ⟨S2, E2⟩⟩ := R
    simp only at HC h2 ⊢
    by_cases h0 : E2 = 0
    · subst h0
      clear h2 h1 hE h
      go_enter Try.func33, Try.ntmps33
      go_wp2_with fail
      refine (HF.out _ c1).mono ?_; rintro x w1 ⟨rfl, rfl⟩
      clear HF
      go_wp2_with fail
      refine (HC.out _ (HP.out _).1 (HP.out _).2).mono ?_; rintro x w2 ⟨rfl, ⟨S', q1, e1⟩, g1⟩
      have HB := Lib.hid (HP.out (tx r.S)).2
      have HH := Lib.hid (And.intro q1 g1)
      obtain rfl := e1 (by trivial)
      clear e1 q1 g1 HC HP
      go_wp2
      go_ret2
      exact ⟨rfl, HH.out.1.rp, (grownB HB.out _).trans HH.out.2⟩
    · obtain ⟨l1, l2⟩ := h2 h0
      have hb : (E2 != 0) = true := by rw [bne_iff_ne]; exact h0
      subst l1
      have HS : Hid (S2 = r.S) := Lib.hid l2
      clear l2 h1 hE h h2 h0
      obtain ⟨T, hT⟩ : ∃ T, T = tx r.S := ⟨_, rfl⟩
      have HT := Lib.hid hT
      rw [← hT] at c0
      clear hT
      go_enter Try.func33, Try.ntmps33
      go_wp2_with fail
      refine (HF.out _ c1).mono ?_; rintro x w1 ⟨rfl, rfl⟩
      clear HF
      go_wp2_with fail
      refine (HC.out _ (HP.out _).1 (HP.out _).2).mono ?_; rintro x w2 ⟨rfl, ⟨S', q1, _⟩, g1⟩
      have HB := Lib.hid (HP.out T).2
      have HH := Lib.hid (And.intro q1 g1)
      have k0 : w2.cell? ⟨w.heap.size, 0, none⟩ = some (.string T) := (World.cell?_of_block (g1.block w.heap.size (by rw [kept_size]; omega) (by intro hc; cases hc; omega))).trans (kept_cell w T)
      obtain ⟨d0, d1, d2, d3⟩ := q1.cells
      have HF1 := Lib.hid (RpAt.fails (S := r.S) q1 E2)
      have HF2 := Lib.hid (RpAt.fails' (S := r.S) q1 E2)
      rw [← HT.out] at HF1 HF2
      skip
      clear q1 g1 HC HP c0 c1 f0 f1
      go_wp2
      go_ret2
      exact ⟨rfl, by rw [HS.out]; exact HF1.out, ((grownB HB.out _).trans HH.out.2).trans ((grown_set _ _ _ _).trans (grown_set _ _ _ _))⟩
  · rw [h1 hE]
    obtain ⟨E, hEE⟩ : ∃ E, E = r.E := ⟨_, rfl⟩
    have hb : (E != 0) = true := by rw [bne_iff_ne, hEE]; exact hE
    have HF := Lib.hid (fun w1 => fault_any (p := p) E w1)
    rw [← hEE] at c1
    have HEE := Lib.hid hEE
    clear hE hEE h h1 h2 HC
    go_enter Try.func33, Try.ntmps33
    go_wp2_with fail
    refine (HF.out _ c1).mono ?_; rintro x w1 ⟨rfl, rfl⟩
    clear HF
    go_wp2
    go_ret2
    exact ⟨by rw [← HEE.out]; rfl, H.out, World.grownBy.refl _ _⟩
theorem readS_nil (f : Value) (w : World) : Calls Try.prog 33 #[.pointer none, f] w fun x w' => x = .returned (.tuple #[.string ⟨#[]⟩, .int .i64 1]) ∧ w = w' := by
  go_enter Try.func33, Try.ntmps33
  go_wp2_with fail
  refine (fault_nil _).mono ?_; rintro x w1 ⟨rfl, rfl⟩
  go_wp2
  go_ret2
  exact ⟨rfl, rfl⟩

set_option maxHeartbeats 2000000 in
set_option maxRecDepth 100000 in
theorem readN_any (K : Nat) (caps : Array Value) (hK : ∀ (args : Array Value) (w : World), (callFunc K args).run Try.prog w = .ok (.enter K args) w) (R : Nat × Rd) (w : World) (h : RpAt w p r)
    (h1 : r.E ≠ 0 → R = ((0 : Nat), r)) (h2 : r.E = 0 → R.2.E ≠ 0 → R.1 = (0 : Nat) ∧ R.2.S = r.S)
    (HC : r.E = 0 → ∀ w1, PlAt w1 p r.S → Below w.heap.size w w1 → Calls Try.prog K caps w1 (PlEnd w1 p (.int .u32 (R.1 : Nat)) R.2.E R.2.S)) :
    Calls Try.prog 37 #[.pointer (some ⟨p, 0, none⟩), .func (.func K) #[] caps] w (RpPost w p (.int .u32 (R.1 : Nat)) R.2) := by
  obtain ⟨c0, c1, f0, f1⟩ := h.cells
  have H := Lib.hid h
  by_cases hE : r.E = 0
  · rw [hE] at c1
    have HF := Lib.hid (fun w1 => fault_any (p := p) 0 w1)
    have HP := Lib.hid (fun T => kept_place h hE T)
    have h2 := h2 hE
    have HC := Lib.hid (HC hE)
    have hlt : p < w.heap.size := Blk.lt h
    obtain ⟨L, ⟨S2, E2⟩⟩ := R
    simp only at HC h2 ⊢
    by_cases h0 : E2 = 0
    · subst h0
      clear h2 h1 hE h
      go_enter Try.func37, Try.ntmps37
      go_wp2_with fail
      refine (HF.out _ c1).mono ?_; rintro x w1 ⟨rfl, rfl⟩
      clear HF
      go_wp2_with fail
      refine (HC.out _ (HP.out _).1 (HP.out _).2).mono ?_; rintro x w2 ⟨rfl, ⟨S', q1, e1⟩, g1⟩
      have HB := Lib.hid (HP.out (tx r.S)).2
      have HH := Lib.hid (And.intro q1 g1)
      obtain rfl := e1 (by trivial)
      clear e1 q1 g1 HC HP
      go_wp2
      go_ret2
      exact ⟨rfl, HH.out.1.rp, (grownB HB.out _).trans HH.out.2⟩
    · obtain ⟨l1, l2⟩ := h2 h0
      have hb : (E2 != 0) = true := by rw [bne_iff_ne]; exact h0
      subst l1
      have HS : Hid (S2 = r.S) := Lib.hid l2
      clear l2 h1 hE h h2 h0
      obtain ⟨T, hT⟩ : ∃ T, T = tx r.S := ⟨_, rfl⟩
      have HT := Lib.hid hT
      rw [← hT] at c0
      clear hT
      go_enter Try.func37, Try.ntmps37
      go_wp2_with fail
      refine (HF.out _ c1).mono ?_; rintro x w1 ⟨rfl, rfl⟩
      clear HF
      go_wp2_with fail
      refine (HC.out _ (HP.out _).1 (HP.out _).2).mono ?_; rintro x w2 ⟨rfl, ⟨S', q1, _⟩, g1⟩
      have HB := Lib.hid (HP.out T).2
      have HH := Lib.hid (And.intro q1 g1)
      have k0 : w2.cell? ⟨w.heap.size, 0, none⟩ = some (.string T) := (World.cell?_of_block (g1.block w.heap.size (by rw [kept_size]; omega) (by intro hc; cases hc; omega))).trans (kept_cell w T)
      obtain ⟨d0, d1, d2, d3⟩ := q1.cells
      have HF1 := Lib.hid (RpAt.fails (S := r.S) q1 E2)
      have HF2 := Lib.hid (RpAt.fails' (S := r.S) q1 E2)
      rw [← HT.out] at HF1 HF2
      skip
      clear q1 g1 HC HP c0 c1 f0 f1
      go_wp2
      go_ret2
      exact ⟨rfl, by rw [HS.out]; exact HF1.out, ((grownB HB.out _).trans HH.out.2).trans ((grown_set _ _ _ _).trans (grown_set _ _ _ _))⟩
  · rw [h1 hE]
    obtain ⟨E, hEE⟩ : ∃ E, E = r.E := ⟨_, rfl⟩
    have hb : (E != 0) = true := by rw [bne_iff_ne, hEE]; exact hE
    have HF := Lib.hid (fun w1 => fault_any (p := p) E w1)
    rw [← hEE] at c1
    have HEE := Lib.hid hEE
    clear hE hEE h h1 h2 HC
    go_enter Try.func37, Try.ntmps37
    go_wp2_with fail
    refine (HF.out _ c1).mono ?_; rintro x w1 ⟨rfl, rfl⟩
    clear HF
    go_wp2
    go_ret2
    exact ⟨by rw [← HEE.out]; rfl, H.out, World.grownBy.refl _ _⟩
theorem readN_nil (f : Value) (w : World) : Calls Try.prog 37 #[.pointer none, f] w fun x w' => x = .returned (.tuple #[.int .u32 0, .int .i64 1]) ∧ w = w' := by
  go_enter Try.func37, Try.ntmps37
  go_wp2_with fail
  refine (fault_nil _).mono ?_; rintro x w1 ⟨rfl, rfl⟩
  go_wp2
  go_ret2
  exact ⟨rfl, rfl⟩

set_option maxHeartbeats 2000000 in
set_option maxRecDepth 100000 in
theorem readL_any (K : Nat) (caps : Array Value) (hK : ∀ (args : Array Value) (w : World), (callFunc K args).run Try.prog w = .ok (.enter K args) w) (R : List (List UInt8) × Rd) (w : World) (h : RpAt w p r)
    (h1 : r.E ≠ 0 → R = (([] : List (List UInt8)), r)) (h2 : r.E = 0 → R.2.E ≠ 0 → R.1 = ([] : List (List UInt8)) ∧ R.2.S = r.S)
    (HC : r.E = 0 → ∀ w1, PlAt w1 p r.S → Below w.heap.size w w1 → Calls Try.prog K caps w1 (PlEndL w1 p R.1 R.2.E R.2.S)) :
    Calls Try.prog 42 #[.pointer (some ⟨p, 0, none⟩), .func (.func K) #[] caps] w (RpPostL w p R.1 R.2) := by
  obtain ⟨c0, c1, f0, f1⟩ := h.cells
  have H := Lib.hid h
  by_cases hE : r.E = 0
  · rw [hE] at c1
    have HF := Lib.hid (fun w1 => fault_any (p := p) 0 w1)
    have HP := Lib.hid (fun T => kept_place h hE T)
    have h2 := h2 hE
    have HC := Lib.hid (HC hE)
    have hlt : p < w.heap.size := Blk.lt h
    obtain ⟨L, ⟨S2, E2⟩⟩ := R
    simp only at HC h2 ⊢
    by_cases h0 : E2 = 0
    · subst h0
      clear h2 h1 hE h
      go_enter Try.func42, Try.ntmps42
      go_wp2_with fail
      refine (HF.out _ c1).mono ?_; rintro x w1 ⟨rfl, rfl⟩
      clear HF
      go_wp2_with fail
      refine (HC.out _ (HP.out _).1 (HP.out _).2).mono ?_; rintro x w2 ⟨v, rfl, o1, ⟨S', q1, e1⟩, g1⟩
      have HB := Lib.hid (HP.out (tx r.S)).2
      have HH := Lib.hid (And.intro q1 g1)
      obtain rfl := e1 (by trivial)
      obtain ⟨a, nn, c, rfl⟩ := OwnL.slice o1
      have HO := Lib.hid (OwnL.mono (B' := w.heap.size) o1 (by rw [kept_size]; omega))
      clear o1
      clear e1 q1 g1 HC HP
      go_wp2
      go_ret2
      exact ⟨_, rfl, HO.out, HH.out.1.rp, (grownB HB.out _).trans HH.out.2⟩
    · obtain ⟨l1, l2⟩ := h2 h0
      have hb : (E2 != 0) = true := by rw [bne_iff_ne]; exact h0
      subst l1
      have HS : Hid (S2 = r.S) := Lib.hid l2
      clear l2 h1 hE h h2 h0
      obtain ⟨T, hT⟩ : ∃ T, T = tx r.S := ⟨_, rfl⟩
      have HT := Lib.hid hT
      rw [← hT] at c0
      clear hT
      go_enter Try.func42, Try.ntmps42
      go_wp2_with fail
      refine (HF.out _ c1).mono ?_; rintro x w1 ⟨rfl, rfl⟩
      clear HF
      go_wp2_with fail
      refine (HC.out _ (HP.out _).1 (HP.out _).2).mono ?_; rintro x w2 ⟨v, rfl, o1, ⟨S', q1, _⟩, g1⟩
      have HB := Lib.hid (HP.out T).2
      have HH := Lib.hid (And.intro q1 g1)
      have k0 : w2.cell? ⟨w.heap.size, 0, none⟩ = some (.string T) := (World.cell?_of_block (g1.block w.heap.size (by rw [kept_size]; omega) (by intro hc; cases hc; omega))).trans (kept_cell w T)
      obtain ⟨d0, d1, d2, d3⟩ := q1.cells
      have HF1 := Lib.hid (RpAt.fails (S := r.S) q1 E2)
      have HF2 := Lib.hid (RpAt.fails' (S := r.S) q1 E2)
      rw [← HT.out] at HF1 HF2
      clear o1
      clear q1 g1 HC HP c0 c1 f0 f1
      go_wp2
      go_ret2
      exact ⟨_, rfl, ownL_nil _ _, by rw [HS.out]; exact HF1.out, ((grownB HB.out _).trans HH.out.2).trans ((grown_set _ _ _ _).trans (grown_set _ _ _ _))⟩
  · rw [h1 hE]
    obtain ⟨E, hEE⟩ : ∃ E, E = r.E := ⟨_, rfl⟩
    have hb : (E != 0) = true := by rw [bne_iff_ne, hEE]; exact hE
    have HF := Lib.hid (fun w1 => fault_any (p := p) E w1)
    rw [← hEE] at c1
    have HEE := Lib.hid hEE
    clear hE hEE h h1 h2 HC
    go_enter Try.func42, Try.ntmps42
    go_wp2_with fail
    refine (HF.out _ c1).mono ?_; rintro x w1 ⟨rfl, rfl⟩
    clear HF
    go_wp2
    go_ret2
    exact ⟨_, by rw [← HEE.out]; rfl, ownL_nil _ _, H.out, World.grownBy.refl _ _⟩
theorem readL_nil (f : Value) (w : World) : Calls Try.prog 42 #[.pointer none, f] w fun x w' => x = .returned (.tuple #[.slice none 0 0, .int .i64 1]) ∧ w = w' := by
  go_enter Try.func42, Try.ntmps42
  go_wp2_with fail
  refine (fault_nil _).mono ?_; rintro x w1 ⟨rfl, rfl⟩
  go_wp2
  go_ret2
  exact ⟨rfl, rfl⟩
end
end Go.Proofs.Ytijfdnaolgbpmaa
