/- The statements' example. -/
import Derived.Test.YtfnofolahhoggaaUG
import Derived.Deep.AppendLies
import Derived.Laws.OwnMore
set_option linter.unusedVariables false
set_option linter.unusedSimpArgs false
namespace Go.Proofs.Ytfnofolahhoggaa
open Go Go.RowKit Go.Maps Oj Rv

theorem infoObjX : (Try.prog.info? 43).map (fun i => (i.zero, i.size, i.bytes)) = some (some (.agg #[.string ⟨#[]⟩, .slice none 0 0]), 2, 40) := by kernel_rfl
theorem new_obX (W : World) (a b : Value) : ∀ j u, [a, b][j]? = some u → (W.alloc (.cells #[a, b] 43)).cell? ((⟨W.heap.size, 0, none⟩ : Addr).add j) = some u :=
  World.news_of_block (cs := #[a, b]) (t := 43) (fr := (0, 0)) (heap_alloc_new W _)
theorem ObsAt.belowX {w w' : World} {v : Value} {l : List Ob} (h : ObsAt w v l) (hb : Below w.heap.size w w') : ObsAt w' v l := h.below hb
theorem own_ltX {w : World} {B : Nat} {e : TypeId} {z : Nat} {v : Value} {n : Nat} {xs : List Value} (h : w.ownsRow B e z v n xs) {g : Nat} (hg : v.ownBlock = some g) : B ≤ g ∧ g < w.heap.size := World.ownsRow.lt h g hg
def exS (n : UInt8) (b : Int) : Sy := ⟨[n], b, 2, 4, [], [], []⟩
def exA : Ob := ⟨[97], [exS 102 2, exS 103 0]⟩
def exB : Ob := ⟨[98], [exS 102 1, exS 103 1]⟩
def exC : Ob := ⟨[99], [exS 102 1]⟩
theorem ex_f0 : fndL [exA, exB] 0 [102] = ((1, 0), 0) := by decide +kernel
theorem ex_g0 : fndL [exA, exB] 0 [103] = ((0, 1), 0) := by decide +kernel
theorem ex_g1 : fndL [exA, exB] 1 [103] = ((1, 1), 0) := by decide +kernel
theorem ex_x : fndL [exA, exB] (-1) [120] = ((0, 0), 121) := by decide +kernel
theorem ex_d : checkL [exA, exB, exC] = ([102], 120) := by decide +kernel
theorem fit_of {l : List Sy} (h : ∀ s ∈ l, syFits s) : ∀ j, j < l.length → syFits (l.getD j Sy.nought) := fun j hj => by
  rw [List.getD_eq_getElem?_getD, List.getElem?_eq_getElem hj]
  exact h _ (List.getElem_mem hj)
theorem exS_fits (n : UInt8) (b : Int) (h : 0 ≤ b ∧ b < 256) : syFits (exS n b) := ⟨show (1 : Nat) ≤ 140737488355328 by decide, h, show (0 : Int) ≤ 2 ∧ (2 : Int) < 256 by decide, show (0 : Int) ≤ 4 ∧ (4 : Int) < 4294967296 by decide, Nat.zero_le _, show 0 * 32 ≤ 140737488355328 by decide, show 0 * 12 ≤ 140737488355328 by decide, fun j hj => absurd hj (Nat.not_lt_zero j), fun j hj => absurd hj (Nat.not_lt_zero j)⟩
theorem ob_fits {o : Ob} (h1 : o.name.length ≤ 140737488355328) (h2 : o.syms.length * 88 ≤ 140737488355328) (h3 : ∀ s ∈ o.syms, syFits s) : obFits o := ⟨h1, h2, fit_of h3⟩
theorem exA_fits : obFits exA := ob_fits (by decide) (by decide) (by intro s hs; simp only [exA, List.mem_cons, List.not_mem_nil, or_false] at hs; rcases hs with rfl | rfl <;> exact exS_fits _ _ (by decide))
theorem exB_fits : obFits exB := ob_fits (by decide) (by decide) (by intro s hs; simp only [exB, List.mem_cons, List.not_mem_nil, or_false] at hs; rcases hs with rfl | rfl <;> exact exS_fits _ _ (by decide))
theorem exC_fits : obFits exC := ob_fits (by decide) (by decide) (by intro s hs; simp only [exC, List.mem_cons, List.not_mem_nil, or_false] at hs; subst hs; exact exS_fits _ _ (by decide))
theorem fits2 : obsFit [exA, exB] := ⟨by decide, fun j hj => by
  match j, hj with
  | 0, _ => exact exA_fits
  | 1, _ => exact exB_fits⟩
theorem fits3 : obsFit [exA, exB, exC] := ⟨by decide, fun j hj => by
  match j, hj with
  | 0, _ => exact exA_fits
  | 1, _ => exact exB_fits
  | 2, _ => exact exC_fits⟩

set_option maxHeartbeats 2000000 in
set_option maxRecDepth 100000 in
theorem vsym_any (n : UInt8) (b : Int) (w : World) : Calls Try.prog 19 #[.string ⟨#[n]⟩, .int .u8 b] w fun e w' => e = .returned (.agg #[.string ⟨#[n]⟩, .int .u8 b, .int .u8 2, .int .u32 4, .string ⟨#[]⟩, .slice none 0 0, .slice none 0 0]) ∧ Below w.heap.size w w' := by
  go_enter Try.func19, Try.ntmps19
  go_wp2_with fail
  refine bodyPost_ret (v := .agg #[.string ⟨#[n]⟩, .int .u8 b, .int .u8 2, .int .u32 4, .string ⟨#[]⟩, .slice none 0 0, .slice none 0 0]) (results_cell_row Try.results19 _ _ w.heap.size 50 _ (0, 0) _ rfl (Blk.new w 50 [.string ⟨#[n]⟩, .int .u8 b, .int .u8 2, .int .u32 4, .string ⟨#[]⟩, .slice none 0 0, .slice none 0 0]) Try.underlying50 rfl (by kernel_rfl)) rfl ⟨rfl, below_new1 w _⟩
theorem flat_takeX {α : Type} (f : α → List Value) (d : α) (l : List α) : ∀ n, n ≤ l.length → flat (fun j => f (l.getD j d)) n = (l.take n).flatMap f
  | 0, _ => rfl
  | n + 1, h => by
    rw [flat, flat_takeX f d l n (by omega), List.take_succ_eq_append_getElem (by omega), List.flatMap_append, List.getD_eq_getElem?_getD, List.getElem?_eq_getElem (by omega)]
    simp
theorem flat_allX {α : Type} (f : α → List Value) (d : α) (l : List α) : flat (fun j => f (l.getD j d)) l.length = l.flatMap f := by
  rw [flat_takeX f d l _ (Nat.le_refl _), List.take_of_length_le (Nat.le_refl _)]
/-- Symbols written down, none of which has a relocation or a note: a row, and how it reads. -/
theorem lit_row (w : World) (T : List Sy) (hl : T.length ≤ maxLen) :
    (w.alloc (.cells (T.flatMap fun s => syCells s (.slice none 0 0) (.slice none 0 0)).toArray 50)).ownsRow w.heap.size 50 7 (.slice (some ⟨w.heap.size, 0, none⟩) T.length T.length) T.length (flat (fun j => syCells (T.getD j Sy.nought) (.slice none 0 0) (.slice none 0 0)) T.length) := by
  have h0 := World.ownsRow_lit (base := w.heap.size) (e := 50) (size := 7) w (T.flatMap fun s => syCells s (.slice none 0 0) (.slice none 0 0)).toArray T.length (Nat.le_refl _) hl (by
    simp only [List.size_toArray]
    clear hl
    induction T with
    | nil => rfl
    | cons t r ih => rw [List.flatMap_cons, List.length_append, ih, List.length_cons]; show 7 + _ = _; omega)
  rw [flat_allX (fun s => syCells s (.slice none 0 0) (.slice none 0 0)) Sy.nought T]
  exact h0
theorem syms_of_row {w : World} {B : Nat} {v : Value} {T : List Sy} (h : ∀ s ∈ T, s.rels = [] ∧ s.notes = []) (h0 : w.ownsRow B 50 7 v T.length (flat (fun j => syCells (T.getD j Sy.nought) (.slice none 0 0) (.slice none 0 0)) T.length)) : SymsAt w v T := by
  refine ⟨fun _ => .slice none 0 0, fun _ => .slice none 0 0, slC_of_row (fun j _ => rfl) h0, fun j hj => ?_⟩
  have hm : T.getD j Sy.nought ∈ T := by rw [List.getD_eq_getElem?_getD, List.getElem?_eq_getElem hj]; exact List.getElem_mem hj
  obtain ⟨h1, h2⟩ := h _ hm
  rw [h1, h2]
  exact ⟨⟨none, 0, rfl, fun h => absurd h (Nat.not_lt_zero 0)⟩, ⟨none, 0, rfl, fun h => absurd h (Nat.not_lt_zero 0)⟩⟩
theorem lit_syms (w : World) (T : List Sy) (h : ∀ s ∈ T, s.rels = [] ∧ s.notes = []) (hl : T.length ≤ maxLen) :
    SymsAt (w.alloc (.cells (T.flatMap fun s => syCells s (.slice none 0 0) (.slice none 0 0)).toArray 50)) (.slice (some ⟨w.heap.size, 0, none⟩) T.length T.length) T := syms_of_row h (lit_row w T hl)
/-- Two objects written down: a row of one's own. -/
theorem lit_ob2 (w : World) (x y : Ob) (vx vy : Value) : (w.alloc (.cells #[.string (tx x.name), vx, .string (tx y.name), vy] 43)).ownsRow w.heap.size 43 2 (.slice (some ⟨w.heap.size, 0, none⟩) 2 2) 2 [.string (tx x.name), vx, .string (tx y.name), vy] :=
  World.ownsRow_lit (base := w.heap.size) (e := 43) (size := 2) w #[.string (tx x.name), vx, .string (tx y.name), vy] 2 (Nat.le_refl _) (by decide) rfl
theorem obs_of_row2 {w : World} {B : Nat} {v : Value} {x y : Ob} {vx vy : Value} (h : w.ownsRow B 43 2 v 2 [.string (tx x.name), vx, .string (tx y.name), vy]) (hx : SymsAt w vx x.syms) (hy : SymsAt w vy y.syms) : ObsAt w v [x, y] := by
  have h0 : w.ownsRow B 43 2 v 2 (flat (fun j => obCells ([x, y].getD j Ob.nought) ([vx, vy].getD j undef)) 2) := h
  refine ⟨fun j => [vx, vy].getD j undef, slC_of_row (fun j _ => rfl) h0, fun j hj => ?_⟩
  match j, hj with
  | 0, _ => exact hx
  | 1, _ => exact hy
theorem obs_of_row3 {w : World} {B : Nat} {v : Value} {x y z : Ob} {vx vy vz : Value} (h : w.ownsRow B 43 2 v 3 [.string (tx x.name), vx, .string (tx y.name), vy, .string (tx z.name), vz]) (hx : SymsAt w vx x.syms) (hy : SymsAt w vy y.syms) (hz : SymsAt w vz z.syms) : ObsAt w v [x, y, z] := by
  have h0 : w.ownsRow B 43 2 v 3 (flat (fun j => obCells ([x, y, z].getD j Ob.nought) ([vx, vy, vz].getD j undef)) 3) := h
  refine ⟨fun j => [vx, vy, vz].getD j undef, slC_of_row (fun j _ => rfl) h0, fun j hj => ?_⟩
  match j, hj with
  | 0, _ => exact hx
  | 1, _ => exact hy
  | 2, _ => exact hz
end Go.Proofs.Ytfnofolahhoggaa
