/- Some texts of one proof, one behind the other; each has its own head below. -/
import Derived.Test.YtgdbhmlmioihpaaGreatDoorX00
import Derived.Sort.WalkA
import Derived.Sort.WalkB2
import Derived.BigRegion
/- The library's sort at numbers of 32 bits: the row that is sorted; cmp.Less; insertion. -/
section
set_option linter.unusedVariables false
namespace Go.Proofs.YtgdbhmlmioihpaaGreatDoor
open Go.RowKit Go.Sort

def encU (x : Int) : Value := .int .u32 x
/-- Block g holds the numbers d from cell off on: what lies ahead of them and behind them is P and R. -/
def Row (P R : List Value) (w : World) (g off : Nat) (d : Array Int) : Prop := P.length = off ∧ w.heap[g]? = some (.cells (P ++ d.toList.map encU ++ R).toArray 23 (0, 0))
section
variable {P R : List Value} {w w' : World} {g off : Nat} {d : Array Int}
theorem Row.lt (h : Row P R w g off d) : g < w.heap.size := (Array.getElem?_eq_some_iff.1 h.2).1
theorem Row.cell (h : Row P R w g off d) (t : Nat) (ht : t < d.size) : w.cell? ⟨g, off + t, none⟩ = some (.int .u32 d[t]!) := by
  obtain ⟨rfl, hb⟩ := h
  rw [cell_of_row w g _ _ _ _ hb]
  simp only [List.getElem?_toArray]
  rw [List.append_assoc, List.getElem?_append_right (by omega), List.getElem?_append_left (by simp; omega)]
  simp [encU, ht]
theorem Row.frozen (h : Row P R w g off d) (t : Nat) : w.frozen? ⟨g, off + t, none⟩ = false := by
  have hb := h.2
  simp [World.frozen?, hb]
theorem Row.set_ (h : Row P R w g off d) (i : Nat) (x : Int) (hi : i < d.size) : Row P R (w.setCell ⟨g, off + i, none⟩ (.int .u32 x)) g off (d.setIfInBounds i x) := by
  obtain ⟨rfl, hb⟩ := h
  refine ⟨rfl, ?_⟩
  have h2 := Blk.set_ (w := w) (g := g) (t := 23) (cs := P ++ d.toList.map encU ++ R) hb (P.length + i) (.int .u32 x)
  have e : (P ++ d.toList.map encU ++ R).set (P.length + i) (.int .u32 x) = P ++ (d.setIfInBounds i x).toList.map encU ++ R := by
    rw [List.append_assoc, List.set_append_right _ _ (by omega), List.set_append_left _ _ (by simp; omega), ← List.append_assoc, Nat.add_sub_cancel_left, Array.toList_setIfInBounds]
    congr 2
    rw [show (Value.int .u32 x) = encU x from rfl, ← List.map_set]
  rw [e] at h2
  exact h2
theorem Row.swp (h : Row P R w g off d) (i j : Nat) (hi : i < d.size) (hj : j < d.size) : Row P R ((w.setCell ⟨g, off + i, none⟩ (.int .u32 d[j]!)).setCell ⟨g, off + j, none⟩ (.int .u32 d[i]!)) g off (Sort.swp d i j) :=
  (h.set_ i _ hi).set_ j _ (by simpa using hj)
theorem Row.drewN (h : Row P R w g off d) (n : Nat) : Row P R (w.drewN n) g off d := h
theorem Row.drew (h : Row P R w g off d) : Row P R w.drew g off d := h
theorem Row.below {B : Nat} (h : Row P R w g off d) (hb : Below B w w') (hg : g < B) : Row P R w' g off d := ⟨h.1, (hb.block g hg).trans h.2⟩
theorem Row.other {row : Option Nat} (h : Row P R w g off d) (hb : w.grownBy w' row) (hg : some g ≠ row) : Row P R w' g off d := ⟨h.1, (hb.block g h.lt hg).trans h.2⟩
end
theorem only_drewN {a w : World} {row : Option Nat} (h : a.grownBy w row) (n : Nat) : a.grownBy (w.drewN n) row := ⟨h.os, h.tape, h.output, h.size, h.block⟩
theorem only_drew {a w : World} {row : Option Nat} (h : a.grownBy w row) : a.grownBy w.drew row := ⟨h.os, h.tape, h.output, h.size, h.block⟩
theorem only_setCell {a w : World} {g : Nat} (h : a.grownBy w (some g)) (k : Nat) (u : Value) : a.grownBy (w.setCell ⟨g, k, none⟩ u) (some g) :=
  ⟨h.os, h.tape, h.output, by simpa [World.setCell] using h.size, fun i hi hne => (Below.heap_setCell w ⟨g, k, none⟩ u i (fun e => hne (by rw [e]))).trans (h.block i hi hne)⟩
theorem only_trans {a b c : World} {row : Option Nat} (h : a.grownBy b row) (k : b.grownBy c row) : a.grownBy c row :=
  ⟨k.os.trans h.os, k.tape.trans h.tape, k.output.trans h.output, Nat.le_trans h.size k.size, fun i hi hne => (k.block i (Nat.lt_of_lt_of_le hi h.size) hne).trans (h.block i hi hne)⟩
/-- Behind a swap, some draws on. -/
theorem swap_row {P R : List Value} {w0 w : World} {g off : Nat} {d : Array Int} (h : Row P R w g off d) (hg : w0.grownBy w (some g)) (q : Nat) (i j : Nat) (hi : i < d.size) (hj : j < d.size) {x y : Int} (hx : x = d[j]!) (hy : y = d[i]!) :
    Row P R (((w.drewN q).setCell ⟨g, off + i, none⟩ (.int .u32 x)).setCell ⟨g, off + j, none⟩ (.int .u32 y)) g off (Sort.swp d i j) ∧ w0.grownBy (((w.drewN q).setCell ⟨g, off + i, none⟩ (.int .u32 x)).setCell ⟨g, off + j, none⟩ (.int .u32 y)) (some g) := by
  subst hx hy
  exact ⟨(h.drewN q).swp i j hi hj, only_setCell (only_setCell (only_drewN hg q) _ _) _ _⟩

set_option maxHeartbeats 1000000 in
theorem isNaN_any (x : Int) (w : World) : Calls Tryz.prog 143 #[.int .u32 x] w fun e w' => e = .returned (.bool false) ∧ w' = w := by
  go_enter Tryz.func143, Tryz.ntmps143
  go_wp2
  go_ret
  exact ⟨by simp, rfl⟩
set_option maxHeartbeats 1000000 in
theorem less_any (x y : Int) (w : World) : Calls Tryz.prog 115 #[.int .u32 x, .int .u32 y] w fun e w' => e = .returned (.bool (ltInt x y)) ∧ w' = w := by
  go_enter Tryz.func115, Tryz.ntmps115
  go_wp2_with (go_at_call 143; refine (isNaN_any _ _).mono ?_; rintro e w' ⟨rfl, rfl⟩)
  go_ret
  exact ⟨rfl, rfl⟩

def intOf : Value → Int | .int _ q => q | _ => 0

set_option maxHeartbeats 2000000 in
set_option maxRecDepth 1000000 in
theorem insertion_any (P R : List Value) (g off cap a b : Nat) (d : Array Int) (w : World) (hH : Row P R w g off d) (hab : a ≤ b) (hb : b ≤ d.size) (hsz : d.size < 1099511627776) :
    Calls Tryz.prog 109 #[.slice (some ⟨g, off, none⟩) d.size cap, .int .i64 a, .int .i64 b] w fun e w' =>
      e = .returned (.tuple #[]) ∧ Row P R w' g off (insertionSort ltInt d a b) ∧ w.grownBy w' (some g) := by
  have HR := Lib.hid hH
  clear hH
  go_enter Tryz.func109, Tryz.ntmps109
  go_wp2
  go_loopw [6] (fun vi wr => ∃ (i : Nat) (dk : Array Int), vi = .int .i64 i ∧ a < i ∧ i ≤ b + 1 ∧ dk.size = d.size ∧ Hid (Row P R wr g off dk) ∧ Hid (w.grownBy wr (some g)) ∧
      Hid (insOuter ltInt a b i dk = insOuter ltInt a b (a + 1) d)) (fun vi _ => b + 1 - (intOf vi).toNat)
  case atStart => exact ⟨a + 1, d, by go_num, by omega, by omega, rfl, HR, Lib.hid (World.grownBy.refl w _), Lib.hid rfl⟩
  case round =>
    obtain ⟨i, dk, rfl, hai, hib, hsk, HRk, HGk, HO⟩ := hrel
    go_wp2
    · go_loopw [7] (fun vj wr2 => ∃ (j : Nat) (dj : Array Int), vj = .int .i64 j ∧ a ≤ j ∧ j ≤ i ∧ dj.size = d.size ∧ Hid (Row P R wr2 g off dj) ∧ Hid (w.grownBy wr2 (some g)) ∧
          Hid (insInner ltInt a j dj = insInner ltInt a i dk)) (fun vj _ => (intOf vj).toNat)
      case atStart => exact ⟨i, dk, rfl, by omega, Nat.le_refl _, hsk, HRk, HGk, Lib.hid rfl⟩
      case round =>
        obtain ⟨j, dj, rfl, haj, hji, hsj, HRj, HGj, HI⟩ := hrel
        have hlt : i < b := by assumption
        obtain ⟨G, hG⟩ : ∃ G : Nat → Int, ∀ t, G t = dj[t]! := ⟨fun t => dj[t]!, fun _ => rfl⟩
        have hcw : ∀ t, t < d.size → wr.cell? ⟨g, off + t, none⟩ = some (.int .u32 (G t)) := fun t ht => by
          rw [hG]; exact HRj.out.cell t (by omega)
        have hfw : ∀ t, t < d.size → wr.frozen? ⟨g, off + t, none⟩ = false := fun t _ => HRj.out.frozen t
        have HG : Hid (∀ t, G t = dj[t]!) := Lib.hid hG
        clear hG
        have OUT : Hid ((j ≤ a ∨ ltInt dj[j]! dj[j - 1]! = false) → ∀ q, ∃ (i' : Nat) (dk' : Array Int), Value.int .i64 ((i : Int) + 1) = .int .i64 (i' : Nat) ∧ a < i' ∧ i' ≤ b + 1 ∧ dk'.size = d.size ∧
            Hid (Row P R (wr.drewN q) g off dk') ∧ Hid (w.grownBy (wr.drewN q) (some g)) ∧ Hid (insOuter ltInt a b i' dk' = insOuter ltInt a b (a + 1) d)) := Lib.hid fun hs q =>
          ⟨i + 1, dj, by go_num, by omega, by omega, hsj, HRj, Lib.hid (only_drewN HGj.out q), Lib.hid (by rw [← HO.out, Go.Proofs.insOuter_go _ _ _ _ _ hlt, ← HI.out, Go.Proofs.insInner_stop _ _ _ _ hs])⟩
        go_wp2
        by_cases hja : a < j
        · go_quiet (first | (go_at_call 115; refine Calls.quiet_of_same (less_any _ _ _)))
          go_wp2
          · have hl : ltInt (G j) (G (j - 1)) = true := by assumption
            go_region
            all_goals go_wp2
            go_roundw
            case rel =>
              have hs := swap_row HRj.out HGj.out (nq + 1) j (j - 1) (by omega) (by omega) (HG.out (j - 1)) (HG.out j)
              refine ⟨j - 1, Sort.swp dj j (j - 1), by congr 1; omega, by omega, by omega, by rw [size_swp]; exact hsj, Lib.hid hs.1, Lib.hid hs.2, Lib.hid ?_⟩
              rw [← HI.out, Go.Proofs.insInner_go ltInt a j dj hja (by rw [← HG.out, ← HG.out]; exact hl)]
            case measure => simp [intOf]; omega
          · have hl : ltInt (G j) (G (j - 1)) = false := by assumption
            go_roundw
            case rel => exact OUT.out (Or.inr (by rw [← HG.out, ← HG.out]; exact hl)) nq
            case measure => simp [intOf]; omega
        · go_quiet (first | (go_at_call 115; refine Calls.quiet_of_same (less_any _ _ _)))
          go_wp2
          go_roundw
          case rel => exact OUT.out (Or.inl (by omega)) nq
          case measure => simp [intOf]; omega
    · have hge : ¬ i < b := by assumption
      go_end0
      exact ⟨rfl, by unfold Sort.insertionSort; rw [← HO.out, Go.Proofs.insOuter_stop _ _ _ _ _ hge]; exact HRk.out, HGk.out⟩
end Go.Proofs.YtgdbhmlmioihpaaGreatDoor
end

/- The library's sort at numbers of 32 bits: the heap; reverseRange. -/
section
set_option linter.unusedVariables false
namespace Go.Proofs.YtgdbhmlmioihpaaGreatDoor
open Go.RowKit Go.Sort

theorem swap_drew {P R : List Value} {w0 w : World} {g off : Nat} {d : Array Int} (h : Row P R w g off d) (hg : w0.grownBy w (some g)) (i j : Nat) (hi : i < d.size) (hj : j < d.size) {x y : Int} (hx : x = d[j]!) (hy : y = d[i]!) :
    Row P R ((w.setCell ⟨g, off + i, none⟩ (.int .u32 x)).setCell ⟨g, off + j, none⟩ (.int .u32 y)).drew g off (Sort.swp d i j) ∧ w0.grownBy ((w.setCell ⟨g, off + i, none⟩ (.int .u32 x)).setCell ⟨g, off + j, none⟩ (.int .u32 y)).drew (some g) := by
  subst hx hy
  exact ⟨(h.swp i j hi hj).drew, only_drew (only_setCell (only_setCell hg _ _) _ _)⟩

set_option maxHeartbeats 2000000 in
set_option maxRecDepth 1000000 in
theorem reverse_any (P R : List Value) (g off cap a b : Nat) (d : Array Int) (w : World) (hH : Row P R w g off d) (hab : a < b) (hb : b ≤ d.size) (hsz : d.size < 1099511627776) :
    Calls Tryz.prog 113 #[.slice (some ⟨g, off, none⟩) d.size cap, .int .i64 a, .int .i64 b] w fun e w' =>
      e = .returned (.tuple #[]) ∧ Row P R w' g off (reverseRange d a b) ∧ w.grownBy w' (some g) := by
  have HR := Lib.hid hH
  clear hH
  go_enter Tryz.func113, Tryz.ntmps113
  go_wp2
  go_loopw [6, 7] (fun vi vj wr => ∃ (i j : Nat) (dk : Array Int), vi = .int .i64 i ∧ vj = .int .i64 j ∧ i ≤ j + 1 ∧ j < b ∧ dk.size = d.size ∧ Hid (Row P R wr g off dk) ∧ Hid (w.grownBy wr (some g)) ∧
      Hid (reverseLoop i j dk = reverseLoop a (b - 1) d)) (fun vi vj _ => (intOf vj + 1 - intOf vi).toNat)
  case atStart => exact ⟨a, b - 1, d, rfl, by congr 1; omega, by omega, by omega, rfl, HR, Lib.hid (World.grownBy.refl w _), Lib.hid rfl⟩
  case round =>
    obtain ⟨i, j, dk, rfl, rfl, hij, hjb, hsk, HRk, HGk, HO⟩ := hrel
    by_cases hlt : i < j
    · obtain ⟨G, hG⟩ : ∃ G : Nat → Int, ∀ t, G t = dk[t]! := ⟨fun t => dk[t]!, fun _ => rfl⟩
      have hcw : ∀ t, t < d.size → wr.cell? ⟨g, off + t, none⟩ = some (.int .u32 (G t)) := fun t ht => by
        rw [hG]; exact HRk.out.cell t (by omega)
      have hfw : ∀ t, t < d.size → wr.frozen? ⟨g, off + t, none⟩ = false := fun t _ => HRk.out.frozen t
      have HG : Hid (∀ t, G t = dk[t]!) := Lib.hid hG
      clear hG
      go_wp2
      go_region
      all_goals go_wp2
      go_roundw
      case rel =>
        have hs := swap_drew HRk.out HGk.out i j (by omega) (by omega) (HG.out j) (HG.out i)
        refine ⟨i + 1, j - 1, Sort.swp dk i j, by go_num, by congr 1; omega, by omega, by omega, by rw [size_swp]; exact hsk, Lib.hid hs.1, Lib.hid hs.2, Lib.hid ?_⟩
        have h := HO.out
        rw [reverseLoop, if_pos hlt] at h
        exact h
      case measure => simp [intOf]; omega
    · go_wp2
      go_end0
      exact ⟨rfl, by have h := HO.out; rw [reverseLoop, if_neg hlt] at h; rw [reverseRange, ← h]; exact HRk.out, HGk.out⟩

set_option maxHeartbeats 4000000 in
set_option maxRecDepth 1000000 in
theorem sift_any (P R : List Value) (g off len cap : Nat) (d : Array Int) (hlen : d.size = len) (lo hi first : Nat) (w : World) (hH : Row P R w g off d) (hlo : lo ≤ hi) (hb : first + hi ≤ d.size) (hsz : d.size < 1099511627776) :
    Calls Tryz.prog 138 #[.slice (some ⟨g, off, none⟩) len cap, .int .i64 lo, .int .i64 hi, .int .i64 first] w fun e w' =>
      e = .returned (.tuple #[]) ∧ Row P R w' g off (siftDown ltInt hi first lo d) ∧ w.grownBy w' (some g) := by
  subst hlen
  have HR := Lib.hid hH
  clear hH
  go_enter Tryz.func138, Tryz.ntmps138
  go_wp2
  go_loopw [8] (fun s8 wr => ∃ (root : Nat) (dk : Array Int), s8 = .int .i64 root ∧ root ≤ hi ∧ dk.size = d.size ∧ Hid (Row P R wr g off dk) ∧ Hid (w.grownBy wr (some g)) ∧
      Hid (siftDown ltInt hi first root dk = siftDown ltInt hi first lo d)) (fun s8 _ => hi - (intOf s8).toNat)
  case atStart => exact ⟨lo, d, rfl, hlo, rfl, HR, Lib.hid (World.grownBy.refl w _), Lib.hid rfl⟩
  case round =>
    obtain ⟨root, dk, rfl, hr, hsk, HRk, HGk, HO⟩ := hrel
    obtain ⟨G, hG⟩ : ∃ G : Nat → Int, ∀ t, G t = dk[t]! := ⟨fun t => dk[t]!, fun _ => rfl⟩
    have hcw : ∀ t, t < d.size → wr.cell? ⟨g, off + t, none⟩ = some (.int .u32 (G t)) := fun t ht => by
      rw [hG]; exact HRk.out.cell t (by omega)
    have hfw : ∀ t, t < d.size → wr.frozen? ⟨g, off + t, none⟩ = false := fun t _ => HRk.out.frozen t
    have HG : Hid (∀ t, G t = dk[t]!) := Lib.hid hG
    clear hG
    by_cases h0 : hi ≤ 2 * root + 1
    · have h0z : (hi : Int) ≤ 2 * (root : Int) + 1 := by omega
      go_wp2
      go_end0
      exact ⟨rfl, by rw [← HO.out, sd_end ltInt dk h0]; exact HRk.out, HGk.out⟩
    · have h0z : ¬ ((hi : Int) ≤ 2 * (root : Int) + 1) := by omega
      by_cases h1 : 2 * root + 2 < hi
      · have h1z : 2 * (root : Int) + 1 + 1 < (hi : Int) := by omega
        go_wp2_with fail
        go_big_quiet (first | (go_at_call 115; refine Calls.quiet_of_same (less_any _ _ _)))
        go_wp2_with fail
        · have hL : ltInt (G (first + 2 * root + 1)) (G (first + 2 * root + 2)) = true := by assumption
          rw [HG.out, HG.out] at hL
          revert nq; intro nq1
          have hcw2 : ∀ t, t < d.size → (wr.drewN nq1).cell? ⟨g, off + t, none⟩ = some (.int .u32 (G t)) := hcw
          have hfw2 : ∀ t, t < d.size → (wr.drewN nq1).frozen? ⟨g, off + t, none⟩ = false := hfw
          have HR2 : Hid (Row P R (wr.drewN nq1) g off dk) := HRk
          have HG2 : Hid (w.grownBy (wr.drewN nq1) (some g)) := Lib.hid (only_drewN HGk.out nq1)
          clear hcw hfw HRk HGk
          generalize wr.drewN nq1 = wr2 at hcw2 hfw2 HR2 HG2 ⊢
          go_big_quiet (first | (go_at_call 115; refine Calls.quiet_of_same (less_any _ _ _)))
          go_wp2_with fail
          · have hS : ltInt (G (first + root)) (G (first + 2 * root + 2)) = false := by
              have : (!ltInt (G (first + root)) (G (first + 2 * root + 2))) = true := by assumption
              simpa using this
            (try simp only [Exit.inBlock, Exit.then]); refine bodyPost_ret (results_none rfl _ _ _) rfl ?_
            rw [HG.out, HG.out] at hS
            exact ⟨rfl, by rw [← HO.out, sd_right_stop ltInt dk h1 hL hS]; exact HR2.out, only_drewN HG2.out nq⟩
          · have hT : ltInt (G (first + root)) (G (first + 2 * root + 2)) = true := by
              have : (!ltInt (G (first + root)) (G (first + 2 * root + 2))) = false := by assumption
              simpa using this
            rw [HG.out, HG.out] at hT
            have hcw3 : ∀ t, t < d.size → (wr2.drewN nq).cell? ⟨g, off + t, none⟩ = some (.int .u32 (G t)) := hcw2
            have hfw3 : ∀ t, t < d.size → (wr2.drewN nq).frozen? ⟨g, off + t, none⟩ = false := hfw2
            have HR3 : Hid (Row P R (wr2.drewN nq) g off dk) := HR2
            have HG3 : Hid (w.grownBy (wr2.drewN nq) (some g)) := Lib.hid (only_drewN HG2.out nq)
            clear hcw2 hfw2 HR2 HG2
            generalize wr2.drewN nq = wr3 at hcw3 hfw3 HR3 HG3 ⊢
            go_region
            all_goals go_wp2
            go_roundw
            case rel =>
              have hs := swap_drew HR3.out HG3.out (first + root) (first + (2 * root + 1 + 1)) (by omega) (by omega) (HG.out _) (HG.out _)
              refine ⟨2 * root + 1 + 1, Sort.swp dk (first + root) (first + (2 * root + 1 + 1)), by congr 1 <;> omega, by omega, by rw [size_swp]; exact hsk, Lib.hid ?_, Lib.hid ?_, Lib.hid (by rw [← HO.out, sd_right_go ltInt dk h1 hL hT])⟩
              · exact hs.1
              · exact hs.2
            case measure => simp [intOf]; omega
        · have hL : ltInt (G (first + 2 * root + 1)) (G (first + 2 * root + 2)) = false := by assumption
          rw [HG.out, HG.out] at hL
          revert nq; intro nq1
          have hcw2 : ∀ t, t < d.size → (wr.drewN nq1).cell? ⟨g, off + t, none⟩ = some (.int .u32 (G t)) := hcw
          have hfw2 : ∀ t, t < d.size → (wr.drewN nq1).frozen? ⟨g, off + t, none⟩ = false := hfw
          have HR2 : Hid (Row P R (wr.drewN nq1) g off dk) := HRk
          have HG2 : Hid (w.grownBy (wr.drewN nq1) (some g)) := Lib.hid (only_drewN HGk.out nq1)
          clear hcw hfw HRk HGk
          generalize wr.drewN nq1 = wr2 at hcw2 hfw2 HR2 HG2 ⊢
          go_big_quiet (first | (go_at_call 115; refine Calls.quiet_of_same (less_any _ _ _)))
          go_wp2_with fail
          · have hS : ltInt (G (first + root)) (G (first + 2 * root + 1)) = false := by
              have : (!ltInt (G (first + root)) (G (first + 2 * root + 1))) = true := by assumption
              simpa using this
            (try simp only [Exit.inBlock, Exit.then]); refine bodyPost_ret (results_none rfl _ _ _) rfl ?_
            rw [HG.out, HG.out] at hS
            exact ⟨rfl, by rw [← HO.out, sd_left_stop ltInt dk (by omega) (fun _ => hL) hS]; exact HR2.out, only_drewN HG2.out nq⟩
          · have hT : ltInt (G (first + root)) (G (first + 2 * root + 1)) = true := by
              have : (!ltInt (G (first + root)) (G (first + 2 * root + 1))) = false := by assumption
              simpa using this
            rw [HG.out, HG.out] at hT
            have hcw3 : ∀ t, t < d.size → (wr2.drewN nq).cell? ⟨g, off + t, none⟩ = some (.int .u32 (G t)) := hcw2
            have hfw3 : ∀ t, t < d.size → (wr2.drewN nq).frozen? ⟨g, off + t, none⟩ = false := hfw2
            have HR3 : Hid (Row P R (wr2.drewN nq) g off dk) := HR2
            have HG3 : Hid (w.grownBy (wr2.drewN nq) (some g)) := Lib.hid (only_drewN HG2.out nq)
            clear hcw2 hfw2 HR2 HG2
            generalize wr2.drewN nq = wr3 at hcw3 hfw3 HR3 HG3 ⊢
            go_region
            all_goals go_wp2
            go_roundw
            case rel =>
              have hs := swap_drew HR3.out HG3.out (first + root) (first + (2 * root + 1)) (by omega) (by omega) (HG.out _) (HG.out _)
              refine ⟨2 * root + 1, Sort.swp dk (first + root) (first + (2 * root + 1)), by congr 1 <;> omega, by omega, by rw [size_swp]; exact hsk, Lib.hid ?_, Lib.hid ?_, Lib.hid (by rw [← HO.out, sd_left_go ltInt dk (by omega) (fun _ => hL) hT])⟩
              · exact hs.1
              · exact hs.2
            case measure => simp [intOf]; omega
      · have h1z : decide (2 * (root : Int) + 1 + 1 < (hi : Int)) = false := decide_eq_false (by omega)
        go_wp2_with fail
        go_big_quiet (first | (go_at_call 115; refine Calls.quiet_of_same (less_any _ _ _)))
        go_wp2_with fail
        revert nq; intro nq1
        have hcw2 : ∀ t, t < d.size → (wr.drewN nq1).cell? ⟨g, off + t, none⟩ = some (.int .u32 (G t)) := hcw
        have hfw2 : ∀ t, t < d.size → (wr.drewN nq1).frozen? ⟨g, off + t, none⟩ = false := hfw
        have HR2 : Hid (Row P R (wr.drewN nq1) g off dk) := HRk
        have HG2 : Hid (w.grownBy (wr.drewN nq1) (some g)) := Lib.hid (only_drewN HGk.out nq1)
        clear hcw hfw HRk HGk
        generalize wr.drewN nq1 = wr2 at hcw2 hfw2 HR2 HG2 ⊢
        go_big_quiet (first | (go_at_call 115; refine Calls.quiet_of_same (less_any _ _ _)))
        go_wp2_with fail
        · have hS : ltInt (G (first + root)) (G (first + 2 * root + 1)) = false := by
            have : (!ltInt (G (first + root)) (G (first + 2 * root + 1))) = true := by assumption
            simpa using this
          (try simp only [Exit.inBlock, Exit.then]); refine bodyPost_ret (results_none rfl _ _ _) rfl ?_
          rw [HG.out, HG.out] at hS
          exact ⟨rfl, by rw [← HO.out, sd_left_stop ltInt dk (by omega) (fun h => absurd h h1) hS]; exact HR2.out, only_drewN HG2.out nq⟩
        · have hT : ltInt (G (first + root)) (G (first + 2 * root + 1)) = true := by
            have : (!ltInt (G (first + root)) (G (first + 2 * root + 1))) = false := by assumption
            simpa using this
          rw [HG.out, HG.out] at hT
          have hcw3 : ∀ t, t < d.size → (wr2.drewN nq).cell? ⟨g, off + t, none⟩ = some (.int .u32 (G t)) := hcw2
          have hfw3 : ∀ t, t < d.size → (wr2.drewN nq).frozen? ⟨g, off + t, none⟩ = false := hfw2
          have HR3 : Hid (Row P R (wr2.drewN nq) g off dk) := HR2
          have HG3 : Hid (w.grownBy (wr2.drewN nq) (some g)) := Lib.hid (only_drewN HG2.out nq)
          clear hcw2 hfw2 HR2 HG2
          generalize wr2.drewN nq = wr3 at hcw3 hfw3 HR3 HG3 ⊢
          go_region
          all_goals go_wp2
          go_roundw
          case rel =>
            have hs := swap_drew HR3.out HG3.out (first + root) (first + (2 * root + 1)) (by omega) (by omega) (HG.out _) (HG.out _)
            refine ⟨2 * root + 1, Sort.swp dk (first + root) (first + (2 * root + 1)), by congr 1 <;> omega, by omega, by rw [size_swp]; exact hsk, Lib.hid ?_, Lib.hid ?_, Lib.hid (by rw [← HO.out, sd_left_go ltInt dk (by omega) (fun h => absurd h h1) hT])⟩
            · exact hs.1
            · exact hs.2
          case measure => simp [intOf]; omega


theorem siftDown_size (hi first root : Nat) (d : Array Int) : (siftDown ltInt hi first root d).size = d.size := by
  fun_induction siftDown ltInt hi first root d <;> simp_all [size_swp]

set_option maxHeartbeats 4000000 in
set_option maxRecDepth 1000000 in
theorem heap_any (P R : List Value) (g off cap a b : Nat) (d : Array Int) (w : World) (hH : Row P R w g off d) (hab : a < b) (hb : b ≤ d.size) (hsz : d.size < 1099511627776) :
    Calls Tryz.prog 110 #[.slice (some ⟨g, off, none⟩) d.size cap, .int .i64 a, .int .i64 b] w fun e w' =>
      e = .returned (.tuple #[]) ∧ Row P R w' g off (heapSort ltInt d a b) ∧ w.grownBy w' (some g) := by
  have HR := Lib.hid hH
  clear hH
  obtain ⟨hi, hhi⟩ : ∃ hi, hi = b - a := ⟨_, rfl⟩
  have e1 : (b : Int) - (a : Int) = (hi : Int) := by omega
  obtain ⟨k0, hk0⟩ : ∃ k0, k0 = (hi - 1) / 2 + 1 := ⟨_, rfl⟩
  have e2 : ((hi : Int) - 1) / 2 = (k0 : Int) - 1 := by omega
  have e3 : ((hi : Int) - 1).tdiv 2 = (k0 : Int) - 1 := by rw [Int.tdiv_eq_ediv_of_nonneg (by omega)]; exact e2
  have HHI := Lib.hid hhi
  have HK0 := Lib.hid hk0
  have hs : heapSort ltInt d a b = heapPop ltInt a hi (heapBuild ltInt hi a k0 d) := by rw [hk0, hhi]; rfl
  rw [hs]
  clear hs hhi hk0
  go_enter Tryz.func110, Tryz.ntmps110
  go_wp2
  go_loopw [9] (fun s9 wr => ∃ (k : Nat) (dk : Array Int), s9 = .int .i64 ((k : Int) - 1) ∧ k ≤ hi ∧ dk.size = d.size ∧ Hid (Row P R wr g off dk) ∧ Hid (w.grownBy wr (some g)) ∧
      Hid (heapBuild ltInt hi a k dk = heapBuild ltInt hi a k0 d)) (fun s9 _ => (intOf s9 + 1).toNat)
  case atStart => exact ⟨k0, d, by first | rfl | rw [e3] | rw [e2], by have := HK0.out; have := HHI.out; omega, rfl, HR, Lib.hid (World.grownBy.refl w _), Lib.hid rfl⟩
  case round =>
    obtain ⟨k, dk, rfl, hk, hsk, HRk, HGk, HO⟩ := hrel
    cases k with
    | succ k =>
      have HC := Lib.hid (sift_any P R g off d.size cap dk hsk k hi a wr HRk.out (by omega) (by have := HHI.out; omega) (by omega))
      have hz : (0 : Int) ≤ ((k + 1 : Nat) : Int) - 1 := by omega
      have hz2 : ((k + 1 : Nat) : Int) - 1 = (k : Int) := by omega
      have HZ2 := Lib.hid hz2
      rw [hz2] at hz ⊢
      clear hz2
      go_wp2_with (go_at_call 138; refine HC.out.mono ?_; rintro e w2 ⟨rfl, h2, g2⟩)
      go_roundw
      case rel =>
        refine ⟨k, _, rfl, by omega, by rw [siftDown_size]; exact hsk, Lib.hid h2, Lib.hid (only_trans HGk.out g2), Lib.hid ?_⟩
        have h := HO.out
        rw [heapBuild] at h
        exact h
      case measure => simp [intOf]
    | zero =>
      have hz : ¬ (0 : Int) ≤ ((0 : Nat) : Int) - 1 := by omega
      go_wp2
      go_loopw [10] (fun s10 wr2 => ∃ (k : Nat) (dj : Array Int), s10 = .int .i64 ((k : Int) - 1) ∧ k ≤ hi ∧ dj.size = d.size ∧ Hid (Row P R wr2 g off dj) ∧ Hid (w.grownBy wr2 (some g)) ∧
          Hid (heapPop ltInt a k dj = heapPop ltInt a hi (heapBuild ltInt hi a k0 d))) (fun s10 _ => (intOf s10 + 1).toNat)
      case atStart => exact ⟨hi, dk, rfl, Nat.le_refl _, hsk, HRk, HGk, Lib.hid (by rw [← HO.out, heapBuild])⟩
      case round =>
        obtain ⟨k, dj, rfl, hk2, hsj, HRj, HGj, HO2⟩ := hrel
        cases k with
        | succ k =>
          obtain ⟨G, hG⟩ : ∃ G : Nat → Int, ∀ t, G t = dj[t]! := ⟨fun t => dj[t]!, fun _ => rfl⟩
          have hcw : ∀ t, t < d.size → wr.cell? ⟨g, off + t, none⟩ = some (.int .u32 (G t)) := fun t ht => by
            rw [hG]; exact HRj.out.cell t (by omega)
          have hfw : ∀ t, t < d.size → wr.frozen? ⟨g, off + t, none⟩ = false := fun t _ => HRj.out.frozen t
          have HG : Hid (∀ t, G t = dj[t]!) := Lib.hid hG
          clear hG
          have hz1 : (0 : Int) ≤ ((k + 1 : Nat) : Int) - 1 := by omega
          have hz2 : ((k + 1 : Nat) : Int) - 1 = (k : Int) := by omega
          have hkb : a + k < d.size := by have := HHI.out; omega
          rw [hz2] at hz1 ⊢
          clear hz2 hz
          have hs := swap_drew HRj.out HGj.out a (a + k) (by omega) (by omega) (HG.out _) (HG.out _)
          have HS := Lib.hid hs
          have HC := Lib.hid (sift_any P R g off d.size cap (Sort.swp dj a (a + k)) (by rw [size_swp]; exact hsj) 0 k a _ hs.1 (Nat.zero_le _) (by rw [size_swp]; have := HHI.out; omega) (by rw [size_swp]; omega))
          clear hs
          rcases Nat.eq_zero_or_pos k with hk0 | hk0
          · subst hk0
            go_wp2_with fail
            go_region
            all_goals go_wp2_with (go_at_call 138; refine HC.out.mono ?_; rintro e w2 ⟨rfl, h2, g2⟩)
            go_roundw
            case rel =>
              refine ⟨0, _, rfl, by omega, by rw [siftDown_size, size_swp]; exact hsj, Lib.hid h2, Lib.hid (only_trans HS.out.2 g2), Lib.hid ?_⟩
              have h := HO2.out
              rw [heapPop] at h
              exact h
            case measure => simp [intOf]
          · have hne : ¬ a + k = a := by omega
            go_wp2_with fail
            go_region
            all_goals go_wp2_with (go_at_call 138; refine HC.out.mono ?_; rintro e w2 ⟨rfl, h2, g2⟩)
            go_roundw
            case rel =>
              refine ⟨k, _, rfl, by omega, by rw [siftDown_size, size_swp]; exact hsj, Lib.hid h2, Lib.hid (only_trans HS.out.2 g2), Lib.hid ?_⟩
              have h := HO2.out
              rw [heapPop] at h
              exact h
            case measure => simp [intOf]
        | zero =>
          have hz1 : ¬ (0 : Int) ≤ ((0 : Nat) : Int) - 1 := by omega
          go_wp2
          go_end0
          exact ⟨rfl, by have h := HO2.out; rw [heapPop] at h; rw [← h]; exact HRj.out, HGj.out⟩
end Go.Proofs.YtgdbhmlmioihpaaGreatDoor
end
