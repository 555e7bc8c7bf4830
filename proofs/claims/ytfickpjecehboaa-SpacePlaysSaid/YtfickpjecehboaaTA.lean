/- The library's sort at numbers of 32 bits: the row that is sorted; cmp.Less; insertion. -/
import Derived.Test.YtfickpjecehboaaSA
import Derived.Sort.WalkA
set_option linter.unusedVariables false
namespace Go.Proofs.Ytfickpjecehboaa
open Go.RowKit Go.Sort

def encU (x : Int) : Value := .int .u32 x
/-- Block g holds the numbers d from cell off on: what lies ahead of them and behind them is P and R. -/
def Row (P R : List Value) (w : World) (g off : Nat) (d : Array Int) : Prop := P.length = off ∧ w.heap[g]? = some (.cells (P ++ d.toList.map encU ++ R).toArray 23 (0, 0))
section
variable {P R : List Value} {w w' : World} {g off : Nat} {d : Array Int}
theorem Row.lt (h : Row P R w g off d) : g < w.heap.size := (Array.getElem?_eq_some_iff.1 h.2).1
theorem Row.cell (h : Row P R w g off d) (t : Nat) (ht : t < d.size) : w.cell? ⟨g, off + t, none⟩ = some (.int .u32 d[t]!) := by
  obtain ⟨rfl, hb⟩ := h
  rw [cell_of_row w g _ _ _ _ hb]
  simp only [List.getElem?_toArray]
  rw [List.append_assoc, List.getElem?_append_right (by omega), List.getElem?_append_left (by simp; omega)]
  simp [encU, ht]
theorem Row.frozen (h : Row P R w g off d) (t : Nat) : w.frozen? ⟨g, off + t, none⟩ = false := by
  have hb := h.2
  simp [World.frozen?, hb]
theorem Row.set_ (h : Row P R w g off d) (i : Nat) (x : Int) (hi : i < d.size) : Row P R (w.setCell ⟨g, off + i, none⟩ (.int .u32 x)) g off (d.setIfInBounds i x) := by
  obtain ⟨rfl, hb⟩ := h
  refine ⟨rfl, ?_⟩
  have h2 := Blk.set_ (w := w) (g := g) (t := 23) (cs := P ++ d.toList.map encU ++ R) hb (P.length + i) (.int .u32 x)
  have e : (P ++ d.toList.map encU ++ R).set (P.length + i) (.int .u32 x) = P ++ (d.setIfInBounds i x).toList.map encU ++ R := by
    rw [List.append_assoc, List.set_append_right _ _ (by omega), List.set_append_left _ _ (by simp; omega), ← List.append_assoc, Nat.add_sub_cancel_left, Array.toList_setIfInBounds]
    congr 2
    rw [show (Value.int .u32 x) = encU x from rfl, ← List.map_set]
  rw [e] at h2
  exact h2
theorem Row.swp (h : Row P R w g off d) (i j : Nat) (hi : i < d.size) (hj : j < d.size) : Row P R ((w.setCell ⟨g, off + i, none⟩ (.int .u32 d[j]!)).setCell ⟨g, off + j, none⟩ (.int .u32 d[i]!)) g off (Sort.swp d i j) :=
  (h.set_ i _ hi).set_ j _ (by simpa using hj)
theorem Row.drewN (h : Row P R w g off d) (n : Nat) : Row P R (w.drewN n) g off d := h
theorem Row.drew (h : Row P R w g off d) : Row P R w.drew g off d := h
theorem Row.below {B : Nat} (h : Row P R w g off d) (hb : Below B w w') (hg : g < B) : Row P R w' g off d := ⟨h.1, (hb.block g hg).trans h.2⟩
theorem Row.other {row : Option Nat} (h : Row P R w g off d) (hb : w.grownBy w' row) (hg : some g ≠ row) : Row P R w' g off d := ⟨h.1, (hb.block g h.lt hg).trans h.2⟩
end
theorem only_drewN {a w : World} {row : Option Nat} (h : a.grownBy w row) (n : Nat) : a.grownBy (w.drewN n) row := ⟨h.os, h.tape, h.output, h.size, h.block⟩
theorem only_drew {a w : World} {row : Option Nat} (h : a.grownBy w row) : a.grownBy w.drew row := ⟨h.os, h.tape, h.output, h.size, h.block⟩
theorem only_setCell {a w : World} {g : Nat} (h : a.grownBy w (some g)) (k : Nat) (u : Value) : a.grownBy (w.setCell ⟨g, k, none⟩ u) (some g) :=
  ⟨h.os, h.tape, h.output, by simpa [World.setCell] using h.size, fun i hi hne => (Below.heap_setCell w ⟨g, k, none⟩ u i (fun e => hne (by rw [e]))).trans (h.block i hi hne)⟩
theorem only_trans {a b c : World} {row : Option Nat} (h : a.grownBy b row) (k : b.grownBy c row) : a.grownBy c row :=
  ⟨k.os.trans h.os, k.tape.trans h.tape, k.output.trans h.output, Nat.le_trans h.size k.size, fun i hi hne => (k.block i (Nat.lt_of_lt_of_le hi h.size) hne).trans (h.block i hi hne)⟩
/-- Behind a swap, some draws on. -/
theorem swap_row {P R : List Value} {w0 w : World} {g off : Nat} {d : Array Int} (h : Row P R w g off d) (hg : w0.grownBy w (some g)) (q : Nat) (i j : Nat) (hi : i < d.size) (hj : j < d.size) {x y : Int} (hx : x = d[j]!) (hy : y = d[i]!) :
    Row P R (((w.drewN q).setCell ⟨g, off + i, none⟩ (.int .u32 x)).setCell ⟨g, off + j, none⟩ (.int .u32 y)) g off (Sort.swp d i j) ∧ w0.grownBy (((w.drewN q).setCell ⟨g, off + i, none⟩ (.int .u32 x)).setCell ⟨g, off + j, none⟩ (.int .u32 y)) (some g) := by
  subst hx hy
  exact ⟨(h.drewN q).swp i j hi hj, only_setCell (only_setCell (only_drewN hg q) _ _) _ _⟩

set_option maxHeartbeats 1000000 in
theorem isNaN_any (x : Int) (w : World) : Calls Try.prog 73 #[.int .u32 x] w fun e w' => e = .returned (.bool false) ∧ w' = w := by
  go_enter Try.func73, Try.ntmps73
  go_wp2
  go_ret
  exact ⟨by simp, rfl⟩
set_option maxHeartbeats 1000000 in
theorem less_any (x y : Int) (w : World) : Calls Try.prog 61 #[.int .u32 x, .int .u32 y] w fun e w' => e = .returned (.bool (ltInt x y)) ∧ w' = w := by
  go_enter Try.func61, Try.ntmps61
  go_wp2_with (go_at_call 73; refine (isNaN_any _ _).mono ?_; rintro e w' ⟨rfl, rfl⟩)
  go_ret
  exact ⟨rfl, rfl⟩

def intOf : Value → Int | .int _ q => q | _ => 0

set_option maxHeartbeats 2000000 in
set_option maxRecDepth 1000000 in
theorem insertion_any (P R : List Value) (g off cap a b : Nat) (d : Array Int) (w : World) (hH : Row P R w g off d) (hab : a ≤ b) (hb : b ≤ d.size) (hsz : d.size < 1099511627776) :
    Calls Try.prog 55 #[.slice (some ⟨g, off, none⟩) d.size cap, .int .i64 a, .int .i64 b] w fun e w' =>
      e = .returned (.tuple #[]) ∧ Row P R w' g off (insertionSort ltInt d a b) ∧ w.grownBy w' (some g) := by
  have HR := Lib.hid hH
  clear hH
  go_enter Try.func55, Try.ntmps55
  go_wp2
  go_loopw [6] (fun vi wr => ∃ (i : Nat) (dk : Array Int), vi = .int .i64 i ∧ a < i ∧ i ≤ b + 1 ∧ dk.size = d.size ∧ Hid (Row P R wr g off dk) ∧ Hid (w.grownBy wr (some g)) ∧
      Hid (insOuter ltInt a b i dk = insOuter ltInt a b (a + 1) d)) (fun vi _ => b + 1 - (intOf vi).toNat)
  case atStart => exact ⟨a + 1, d, by go_num, by omega, by omega, rfl, HR, Lib.hid (World.grownBy.refl w _), Lib.hid rfl⟩
  case round =>
    obtain ⟨i, dk, rfl, hai, hib, hsk, HRk, HGk, HO⟩ := hrel
    go_wp2
    · go_loopw [7] (fun vj wr2 => ∃ (j : Nat) (dj : Array Int), vj = .int .i64 j ∧ a ≤ j ∧ j ≤ i ∧ dj.size = d.size ∧ Hid (Row P R wr2 g off dj) ∧ Hid (w.grownBy wr2 (some g)) ∧
          Hid (insInner ltInt a j dj = insInner ltInt a i dk)) (fun vj _ => (intOf vj).toNat)
      case atStart => exact ⟨i, dk, rfl, by omega, Nat.le_refl _, hsk, HRk, HGk, Lib.hid rfl⟩
      case round =>
        obtain ⟨j, dj, rfl, haj, hji, hsj, HRj, HGj, HI⟩ := hrel
        have hlt : i < b := by assumption
        obtain ⟨G, hG⟩ : ∃ G : Nat → Int, ∀ t, G t = dj[t]! := ⟨fun t => dj[t]!, fun _ => rfl⟩
        have hcw : ∀ t, t < d.size → wr.cell? ⟨g, off + t, none⟩ = some (.int .u32 (G t)) := fun t ht => by
          rw [hG]; exact HRj.out.cell t (by omega)
        have hfw : ∀ t, t < d.size → wr.frozen? ⟨g, off + t, none⟩ = false := fun t _ => HRj.out.frozen t
        have HG : Hid (∀ t, G t = dj[t]!) := Lib.hid hG
        clear hG
        have OUT : Hid ((j ≤ a ∨ ltInt dj[j]! dj[j - 1]! = false) → ∀ q, ∃ (i' : Nat) (dk' : Array Int), Value.int .i64 ((i : Int) + 1) = .int .i64 (i' : Nat) ∧ a < i' ∧ i' ≤ b + 1 ∧ dk'.size = d.size ∧
            Hid (Row P R (wr.drewN q) g off dk') ∧ Hid (w.grownBy (wr.drewN q) (some g)) ∧ Hid (insOuter ltInt a b i' dk' = insOuter ltInt a b (a + 1) d)) := Lib.hid fun hs q =>
          ⟨i + 1, dj, by go_num, by omega, by omega, hsj, HRj, Lib.hid (only_drewN HGj.out q), Lib.hid (by rw [← HO.out, Go.Proofs.insOuter_go _ _ _ _ _ hlt, ← HI.out, Go.Proofs.insInner_stop _ _ _ _ hs])⟩
        go_wp2
        by_cases hja : a < j
        · go_quiet (first | (go_at_call 61; refine Calls.quiet_of_same (less_any _ _ _)))
          go_wp2
          · have hl : ltInt (G j) (G (j - 1)) = true := by assumption
            go_region
            all_goals go_wp2
            go_roundw
            case rel =>
              have hs := swap_row HRj.out HGj.out (nq + 1) j (j - 1) (by omega) (by omega) (HG.out (j - 1)) (HG.out j)
              refine ⟨j - 1, Sort.swp dj j (j - 1), by congr 1; omega, by omega, by omega, by rw [size_swp]; exact hsj, Lib.hid hs.1, Lib.hid hs.2, Lib.hid ?_⟩
              rw [← HI.out, Go.Proofs.insInner_go ltInt a j dj hja (by rw [← HG.out, ← HG.out]; exact hl)]
            case measure => simp [intOf]; omega
          · have hl : ltInt (G j) (G (j - 1)) = false := by assumption
            go_roundw
            case rel => exact OUT.out (Or.inr (by rw [← HG.out, ← HG.out]; exact hl)) nq
            case measure => simp [intOf]; omega
        · go_quiet (first | (go_at_call 61; refine Calls.quiet_of_same (less_any _ _ _)))
          go_wp2
          go_roundw
          case rel => exact OUT.out (Or.inl (by omega)) nq
          case measure => simp [intOf]; omega
    · have hge : ¬ i < b := by assumption
      go_end0
      exact ⟨rfl, by unfold Sort.insertionSort; rw [← HO.out, Go.Proofs.insOuter_stop _ _ _ _ _ hge]; exact HRk.out, HGk.out⟩
end Go.Proofs.Ytfickpjecehboaa
