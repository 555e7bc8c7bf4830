/- Some texts of one proof, one behind the other; each has its own head below. -/
import Derived.Test.YtgdbhmlmioihpaaGreatDoorX18
import Derived.Test.YtgdbhmlmioihpaaGreatDoorX00
import Derived.Deep.Slices
import Derived.ProofKit
import Derived.Below
import Derived.OpenShut
import Derived.WalkArith
import Derived.SizedLaws
/- A slice of instructions that came in: the list that lies under it. -/
section
set_option linter.unusedVariables false
namespace Go.Proofs.YtgdbhmlmioihpaaGreatDoor.I
open Go Go.ChangeShapes Go.WideShapes Go.RowKit

theorem lie_of_cells {W : World} {ad : Addr} {n : Nat} (X : Nat → Ins) (hn : 0 < n) (hX : ∀ i, i < n → W.cells? 0 (ad.add (i * 5)) 5 = some (X i).cells) :
    ∃ g o, ad = ⟨g, o, none⟩ ∧ g < W.heap.size ∧ Lie W g o ((List.range n).map X) := by
  obtain ⟨g, o, spot⟩ := ad
  have hat : ∀ i, i < n → ∀ j v, (X i).cells[j]? = some v → W.cell? (((⟨g, o, spot⟩ : Addr).add (i * 5)).add j) = some v := by
    intro i hi j v hv
    obtain ⟨_, _, hj⟩ := World.cells?_some (hX i hi)
    have hlt : j < 5 := (List.getElem?_eq_some_iff.1 hv).1
    rw [hj j hlt]
    exact hv
  have h00 := hat 0 hn 0 _ rfl
  have hspot : spot = none := by simpa [Addr.add] using World.cell?_spot h00
  subst hspot
  have hbl : g < W.heap.size := by
    rcases Nat.lt_or_ge g W.heap.size with h | h
    · exact h
    · rw [Addr.add_mid, Addr.add_mid] at h00
      simp [World.cell?, Array.getElem?_eq_none h] at h00
  refine ⟨g, o, rfl, hbl, fun k hk j v hv => ?_⟩
  have hk' : k < n := by simpa using hk
  have hget : ((List.range n).map X).getD k Ins.nought = X k := by simp [List.getD_eq_getElem?_getD, hk']
  rw [hget] at hv
  have := hat k hk' j v hv
  rw [Addr.add_mid, Addr.add_mid] at this
  exact this

theorem open_insns {H : Type} {enc : TypeId × Value → H} {W : World} {spare : Nat → Bool} {held : Bool} {a0 : Option Addr} {n c : Nat} {x : DataW H} {p : List MemPlace} (h : DataW.Trod enc Tryz.prog W 0 spare held 26 (.slice a0 n c) x p) :
    (a0 = none ∧ n = 0 ∧ c = 0) ∨ ∃ (ad : Addr) (l : List Ins), a0 = some ad ∧ l.length = n ∧ (∀ k, k < l.length → (l.getD k Ins.nought).fits) ∧ (l = [] ∨ ∃ g o, ad = ⟨g, o, none⟩ ∧ g < W.heap.size ∧ Lie W g o l) := by
  obtain ⟨fuel, hf⟩ := h
  rcases Go.Deep.open_slice Tryz.underlying26 hf with ⟨hcs, _⟩ | ⟨a, len, cap, m, n', D, Pl, hcs, _, hl, _, hmm, _, hcell⟩
  · simp [Value.cells] at hcs
    exact .inl hcs
  · simp [Value.cells] at hcs
    obtain ⟨rfl, rfl, rfl⟩ := hcs
    rw [cInsn] at hcell
    have hel : ∀ i, ∃ y : Ins, i < n → y.fits ∧ W.cells? 0 (a.add (i * 5)) 5 = some y.cells := by
      intro i
      by_cases hi : i < n
      · obtain ⟨cs', h1, h2⟩ := hcell i (by rw [hmm]; split <;> omega)
        obtain ⟨op, d, a', b, im, rfl, _, hfit⟩ := insn_of_cells h2
        exact ⟨⟨op, d, a', b, im⟩, fun _ => ⟨hfit, h1⟩⟩
      · exact ⟨Ins.nought, fun h => absurd h hi⟩
    obtain ⟨X, hX⟩ := Classical.axiomOfChoice hel
    refine .inr ⟨a, (List.range n).map X, rfl, by simp, fun k hk => ?_, ?_⟩
    · have hk' : k < n := by simpa using hk
      have hget : ((List.range n).map X).getD k Ins.nought = X k := by simp [List.getD_eq_getElem?_getD, hk']
      rw [hget]
      exact (hX k hk').1
    · by_cases hz : n = 0
      · subst hz; exact .inl rfl
      · exact .inr (lie_of_cells X (by omega) fun i hi => (hX i hi).2)
end Go.Proofs.YtgdbhmlmioihpaaGreatDoor.I
end

/- A state that came in: its numbers, perms, instructions and bytes. -/
section
set_option linter.unusedVariables false
set_option maxRecDepth 100000
namespace Go.Proofs.YtgdbhmlmioihpaaGreatDoor
open Go Go.ChangeShapes Go.WideShapes Go.RowKit

/-- Numbers of a kind that a slice leads to. -/
def NumsAt (k : IntKind) (w : World) (a0 : Option Addr) (l : List Int) : Prop := ∀ i, i < l.length → ∃ g o, a0 = some ⟨g, o, none⟩ ∧ g < w.heap.size ∧ ∀ j, j < l.length → w.cell? ⟨g, o + j, none⟩ = some (.int k (l.getD j 0))
theorem NumsAt.below {k : IntKind} {w w' : World} {a0 : Option Addr} {l : List Int} {B : Nat} (h : NumsAt k w a0 l) (hb : Below B w w') (hB : B = w.heap.size) : NumsAt k w' a0 l := fun i hi => by
  obtain ⟨g, o, h1, h2, h3⟩ := h i hi
  exact ⟨g, o, h1, Nat.lt_of_lt_of_le h2 hb.size, fun j hj => (hb.cell (p := ⟨g, o + j, none⟩) (show g < B by omega)).trans (h3 j hj)⟩
/-- Instructions that a slice leads to. -/
def InsAt (w : World) (a0 : Option Addr) (l : List I.Ins) : Prop := ∀ k, k < l.length → ∃ g o, a0 = some ⟨g, o, none⟩ ∧ g < w.heap.size ∧ I.Lie w g o l
theorem InsAt.below {w w' : World} {a0 : Option Addr} {l : List I.Ins} {B : Nat} (h : InsAt w a0 l) (hb : Below B w w') (hB : B = w.heap.size) : InsAt w' a0 l := fun i hi => by
  obtain ⟨g, o, h1, h2, h3⟩ := h i hi
  exact ⟨g, o, h1, Nat.lt_of_lt_of_le h2 hb.size, h3.below hb (by omega)⟩

/-- A state. -/
structure Sta where
  R : List Int
  pc : Int
  P : List Int
  at' : Int
  L : List I.Ins
  wh : Int
  tx : ByteArray
structure Sta.fits (s : Sta) : Prop where
  r : ∀ j, j < s.R.length → 0 ≤ s.R.getD j 0 ∧ s.R.getD j 0 < 4294967296
  pc : 0 ≤ s.pc ∧ s.pc < 4294967296
  p : ∀ j, j < s.P.length → 0 ≤ s.P.getD j 0 ∧ s.P.getD j 0 < 256
  at' : 0 ≤ s.at' ∧ s.at' < 65536
  l : ∀ k, k < s.L.length → (s.L.getD k I.Ins.nought).fits
  wh : 0 ≤ s.wh ∧ s.wh < 65536
/-- Where its slices begin, and how much room each has. -/
structure Plc where
  aR : Option Addr
  cR : Nat
  aP : Option Addr
  cP : Nat
  aL : Option Addr
  cL : Nat
def Sta.cells (s : Sta) (q : Plc) : List Value := [.slice q.aR s.R.length q.cR, .int .u32 s.pc, .slice q.aP s.P.length q.cP, .int .u16 s.at', .slice q.aL s.L.length q.cL, .int .u16 s.wh, .string s.tx]
structure Sta.lies (s : Sta) (q : Plc) (w : World) : Prop where
  r : NumsAt .u32 w q.aR s.R
  p : NumsAt .u8 w q.aP s.P
  l : InsAt w q.aL s.L
theorem Sta.lies.below {s : Sta} {q : Plc} {w w' : World} {B : Nat} (h : s.lies q w) (hb : Below B w w') (hB : B = w.heap.size) : s.lies q w' := ⟨h.r.below hb hB, h.p.below hb hB, h.l.below hb hB⟩

section
variable {H : Type} {enc : TypeId × Value → H} {W : World} {spare : Nat → Bool} {held : Bool}
theorem slice_of {ts te : TypeId} (hu : Tryz.prog.underlying ts = some (.slice te)) {n : Nat} {v : Value} {y : DataW H × List MemPlace} (g : DataW.trod enc Tryz.prog W 0 spare held n ts [v] = some y) :
    ∃ a0 m c, v = .slice a0 m c ∧ DataW.Trod enc Tryz.prog W 0 spare held ts (.slice a0 m c) y.1 y.2 := by
  rcases Go.Deep.open_slice hu g with ⟨hcs, _⟩ | ⟨a, len, cap, m, n', D, Pl, hcs, _, _, _, _, _, _⟩
  · simp at hcs
    subst hcs
    exact ⟨_, _, _, rfl, n, by simpa [Value.cells] using g⟩
  · simp at hcs
    subst hcs
    exact ⟨_, _, _, rfl, n, by simpa [Value.cells] using g⟩
theorem open_u32s {a0 : Option Addr} {n c : Nat} {x : DataW H} {p : List MemPlace} (h : DataW.Trod enc Tryz.prog W 0 spare held 22 (.slice a0 n c) x p) :
    ∃ l : List Int, l.length = n ∧ (∀ j, j < l.length → 0 ≤ l.getD j 0 ∧ l.getD j 0 < 4294967296) ∧ NumsAt .u32 W a0 l := by
  obtain ⟨fuel, hf⟩ := h
  rcases Go.Deep.open_slice Tryz.underlying22 hf with ⟨hcs, _⟩ | ⟨a, len, cap, m, n', D, Pl, hcs, _, hl, _, hmm, _, hcell⟩
  · simp [Value.cells] at hcs
    obtain ⟨_, rfl, _⟩ := hcs
    exact ⟨[], rfl, fun j hj => absurd hj (by simp), fun j hj => absurd hj (by simp)⟩
  · simp [Value.cells] at hcs
    obtain ⟨rfl, rfl, rfl⟩ := hcs
    rw [show Tryz.prog.cellsOf 23 = 1 by kernel_rfl] at hcell
    have hel : ∀ i, ∃ y : Int, i < n → (0 ≤ y ∧ y < 4294967296) ∧ W.cell? (a.add i) = some (.int .u32 y) := by
      intro i
      by_cases hi : i < n
      · obtain ⟨cs', h1, h2⟩ := hcell i (by rw [hmm]; split <;> omega)
        obtain ⟨y, e, _, wf⟩ := DataW.trod_int Tryz.underlying23 h2
        subst e
        obtain ⟨_, _, hj⟩ := World.cells?_some h1
        have := hj 0 (by decide)
        have hb := bounds_u32 wf
        refine ⟨y, fun _ => ⟨by omega, ?_⟩⟩
        simpa [Addr.add] using this
      · exact ⟨0, fun h => absurd h hi⟩
    obtain ⟨X, hX⟩ := Classical.axiomOfChoice hel
    have hget : ∀ j, j < n → ((List.range n).map X).getD j 0 = X j := fun j hj => by simp [List.getD_eq_getElem?_getD, hj]
    refine ⟨(List.range n).map X, by simp, fun j hj => ?_, fun i hi => ?_⟩
    · have hj' : j < n := by simpa using hj
      rw [hget j hj']
      exact (hX j hj').1
    · have hn : 0 < n := by have : i < n := by simpa using hi
                            omega
      obtain ⟨g, o, spot⟩ := a
      have h00 := (hX 0 hn).2
      have hspot : spot = none := by simpa [Addr.add] using World.cell?_spot h00
      subst hspot
      have hbl : g < W.heap.size := by
        rcases Nat.lt_or_ge g W.heap.size with h | h
        · exact h
        · rw [Addr.add_mid] at h00
          simp [World.cell?, Array.getElem?_eq_none h] at h00
      refine ⟨g, o, rfl, hbl, fun j hj => ?_⟩
      have hj' : j < n := by simpa using hj
      rw [hget j hj', ← Addr.add_mid]
      exact (hX j hj').2
theorem open_u8s {a0 : Option Addr} {n c : Nat} {x : DataW H} {p : List MemPlace} (h : DataW.Trod enc Tryz.prog W 0 spare held 24 (.slice a0 n c) x p) :
    ∃ l : List Int, l.length = n ∧ (∀ j, j < l.length → 0 ≤ l.getD j 0 ∧ l.getD j 0 < 256) ∧ NumsAt .u8 W a0 l := by
  obtain ⟨fuel, hf⟩ := h
  rcases Go.Deep.open_slice Tryz.underlying24 hf with ⟨hcs, _⟩ | ⟨a, len, cap, m, n', D, Pl, hcs, _, hl, _, hmm, _, hcell⟩
  · simp [Value.cells] at hcs
    obtain ⟨_, rfl, _⟩ := hcs
    exact ⟨[], rfl, fun j hj => absurd hj (by simp), fun j hj => absurd hj (by simp)⟩
  · simp [Value.cells] at hcs
    obtain ⟨rfl, rfl, rfl⟩ := hcs
    rw [show Tryz.prog.cellsOf 5 = 1 by kernel_rfl] at hcell
    have hel : ∀ i, ∃ y : Int, i < n → (0 ≤ y ∧ y < 256) ∧ W.cell? (a.add i) = some (.int .u8 y) := by
      intro i
      by_cases hi : i < n
      · obtain ⟨cs', h1, h2⟩ := hcell i (by rw [hmm]; split <;> omega)
        obtain ⟨y, e, _, wf⟩ := DataW.trod_int Tryz.underlying5 h2
        subst e
        obtain ⟨_, _, hj⟩ := World.cells?_some h1
        have := hj 0 (by decide)
        have hb := bounds_u8 wf
        refine ⟨y, fun _ => ⟨by omega, ?_⟩⟩
        simpa [Addr.add] using this
      · exact ⟨0, fun h => absurd h hi⟩
    obtain ⟨X, hX⟩ := Classical.axiomOfChoice hel
    have hget : ∀ j, j < n → ((List.range n).map X).getD j 0 = X j := fun j hj => by simp [List.getD_eq_getElem?_getD, hj]
    refine ⟨(List.range n).map X, by simp, fun j hj => ?_, fun i hi => ?_⟩
    · have hj' : j < n := by simpa using hj
      rw [hget j hj']
      exact (hX j hj').1
    · have hn : 0 < n := by have : i < n := by simpa using hi
                            omega
      obtain ⟨g, o, spot⟩ := a
      have h00 := (hX 0 hn).2
      have hspot : spot = none := by simpa [Addr.add] using World.cell?_spot h00
      subst hspot
      have hbl : g < W.heap.size := by
        rcases Nat.lt_or_ge g W.heap.size with h | h
        · exact h
        · rw [Addr.add_mid] at h00
          simp [World.cell?, Array.getElem?_eq_none h] at h00
      refine ⟨g, o, rfl, hbl, fun j hj => ?_⟩
      have hj' : j < n := by simpa using hj
      rw [hget j hj', ← Addr.add_mid]
      exact (hX j hj').2

theorem open_state {r : Reach} {b0 : Nat} {v : Value} {x : DataW H} {p : List MemPlace} (hv : Value.okWide Tryz.prog W r b0 28 v) (h : DataW.Trod enc Tryz.prog W 0 spare held 28 v x p) :
    ∃ (s : Sta) (q : Plc), v = .agg (s.cells q).toArray ∧ s.fits ∧ s.lies q W := by
  obtain ⟨cs, rfl, hsz⟩ := okWide_struct Tryz.underlying28 hv
  obtain ⟨fuel, hf⟩ := h
  obtain ⟨xs, n, _, _, hl, hxl, hg⟩ := DataW.trod_struct Tryz.underlying28 hf
  rw [show Tryz.prog.cellsOf 28 = 7 by kernel_rfl] at hl
  have k1 : Tryz.prog.cellsOf 22 = 1 := by kernel_rfl
  have k2 : Tryz.prog.cellsOf 23 = 1 := by kernel_rfl
  have k3 : Tryz.prog.cellsOf 24 = 1 := by kernel_rfl
  have k4 : Tryz.prog.cellsOf 25 = 1 := by kernel_rfl
  have k5 : Tryz.prog.cellsOf 26 = 1 := by kernel_rfl
  have k6 : Tryz.prog.cellsOf 9 = 1 := by kernel_rfl
  have hcs : (Value.agg cs).cells.toList = cs.toList := by simp [Value.cells]
  obtain ⟨vs, hvs⟩ : ∃ vs, vs = (Value.agg cs).cells.toList := ⟨_, rfl⟩
  rw [← hvs] at hl hg
  match vs, hl, hxl, hvs with
  | [v0, v1, v2, v3, v4, v5, v6], _, hxl, hvs =>
    match xs, hxl with
    | [y0, y1, y2, y3, y4, y5, y6], _ =>
      have g0 : DataW.trod enc Tryz.prog W 0 spare held n 22 [v0] = some y0 := by simpa [k1, k2, k3, k4, k5, k6] using hg 0 _ rfl
      have g1 : DataW.trod enc Tryz.prog W 0 spare held n 23 [v1] = some y1 := by simpa [k1, k2, k3, k4, k5, k6] using hg 1 _ rfl
      have g2 : DataW.trod enc Tryz.prog W 0 spare held n 24 [v2] = some y2 := by simpa [k1, k2, k3, k4, k5, k6] using hg 2 _ rfl
      have g3 : DataW.trod enc Tryz.prog W 0 spare held n 25 [v3] = some y3 := by simpa [k1, k2, k3, k4, k5, k6] using hg 3 _ rfl
      have g4 : DataW.trod enc Tryz.prog W 0 spare held n 26 [v4] = some y4 := by simpa [k1, k2, k3, k4, k5, k6] using hg 4 _ rfl
      have g5 : DataW.trod enc Tryz.prog W 0 spare held n 25 [v5] = some y5 := by simpa [k1, k2, k3, k4, k5, k6] using hg 5 _ rfl
      have g6 : DataW.trod enc Tryz.prog W 0 spare held n 9 [v6] = some y6 := by simpa [k1, k2, k3, k4, k5, k6] using hg 6 _ rfl
      obtain ⟨aR, nR, cR, rfl, t0⟩ := slice_of Tryz.underlying22 g0
      obtain ⟨pc, e1, _, w1⟩ := DataW.trod_int Tryz.underlying23 g1
      obtain ⟨aP, nP, cP, rfl, t2⟩ := slice_of Tryz.underlying24 g2
      obtain ⟨at3, e3, _, w3⟩ := DataW.trod_int Tryz.underlying25 g3
      obtain ⟨aL, nL, cL, rfl, t4⟩ := slice_of Tryz.underlying26 g4
      obtain ⟨wh, e5, _, w5⟩ := DataW.trod_int Tryz.underlying25 g5
      obtain ⟨tx, e6, _, w6⟩ := DataW.trod_string Tryz.underlying9 g6
      simp at e1 e3 e5 e6
      subst e1 e3 e5 e6
      obtain ⟨R, rfl, fR, hR⟩ := open_u32s t0
      obtain ⟨P, rfl, fP, hP⟩ := open_u8s t2
      have hL : ∃ L : List I.Ins, L.length = nL ∧ (∀ k, k < L.length → (L.getD k I.Ins.nought).fits) ∧ InsAt W aL L := by
        rcases I.open_insns t4 with ⟨_, rfl, _⟩ | ⟨ad, l, rfl, hl, hf, hL⟩
        · exact ⟨[], rfl, fun k hk => absurd hk (by simp), fun k hk => absurd hk (by simp)⟩
        · refine ⟨l, hl, hf, fun k hk => ?_⟩
          rcases hL with rfl | ⟨g, o, rfl, hg, hL⟩
          · exact absurd hk (by simp)
          · exact ⟨g, o, rfl, hg, hL⟩
      obtain ⟨L, rfl, fL, hL⟩ := hL
      have b1 := bounds_u32 w1
      have b3 := bounds_u16 w3
      have b5 := bounds_u16 w5
      refine ⟨⟨R, pc, P, at3, L, wh, tx⟩, ⟨aR, cR, aP, cP, aL, cL⟩, ?_, ⟨fR, ⟨by simp only; omega, by simp only; omega⟩, fP, ⟨by simp only; omega, by simp only; omega⟩, fL, ⟨by simp only; omega, by simp only; omega⟩⟩, ⟨hR, hP, hL⟩⟩
      congr 1
      apply Array.toList_inj.1
      rw [← hcs, ← hvs]
      rfl
end
def heavyS (s : Sta) : Bool := decide (40 < s.R.length) || decide (16 < s.P.length) || decide (200 < s.L.length) || decide (2048 < s.tx.size)
theorem not_heavyS {s : Sta} (h : heavyS s = false) : s.R.length ≤ 40 ∧ s.P.length ≤ 16 ∧ s.L.length ≤ 200 ∧ s.tx.size ≤ 2048 := by
  unfold heavyS at h
  simp only [Bool.or_eq_false_iff, decide_eq_false_iff_not] at h
  omega
end Go.Proofs.YtgdbhmlmioihpaaGreatDoor
end

/- Heavy: more than a statement runs. -/
section
set_option linter.unusedVariables false
namespace Go.Proofs.YtgdbhmlmioihpaaGreatDoor
open Go Go.RowKit

set_option maxHeartbeats 2000000 in
set_option maxRecDepth 100000 in
theorem cheavy_any (s : Sta) (q : Plc) (w : World) : Calls Tryz.prog 6 #[.agg (s.cells q).toArray] w fun r w' => r = .returned (.bool (heavyS s)) ∧ Below w.heap.size w w' := by
  obtain ⟨R, pc, P, at3, L, wh, tx⟩ := s
  obtain ⟨aR, cR, aP, cP, aL, cL⟩ := q
  show Calls Tryz.prog 6 #[.agg #[.slice aR R.length cR, .int .u32 pc, .slice aP P.length cP, .int .u16 at3, .slice aL L.length cL, .int .u16 wh, .string tx]] w _
  obtain ⟨H, hH⟩ : ∃ H, H = heavyS ⟨R, pc, P, at3, L, wh, tx⟩ := ⟨_, rfl⟩
  rw [← hH]
  unfold heavyS at hH
  simp only at hH
  obtain ⟨nR, hR⟩ : ∃ n, n = R.length := ⟨_, rfl⟩
  obtain ⟨nP, hP⟩ : ∃ n, n = P.length := ⟨_, rfl⟩
  obtain ⟨nL, hL⟩ : ∃ n, n = L.length := ⟨_, rfl⟩
  rw [← hR, ← hP, ← hL] at hH ⊢
  clear hR hP hL
  have HH := Lib.hid hH
  clear hH
  have fin : ∀ z : Bool, z = H → ∀ (o : Obj), (Ending.returned (.bool z) = .returned (.bool H) ∧ Below w.heap.size w (w.alloc o)) := fun z hz o => ⟨by rw [hz], (Below.refl _ _).alloc (Nat.le_refl _) _⟩
  have FIN := Lib.hid fin
  clear fin
  by_cases h1 : (40 : Int) < (nR : Int)
  · have hv : Hid (true = H) := Lib.hid (by rw [HH.out]; simp; omega)
    clear HH
    go_enter Tryz.func6, Tryz.ntmps6
    go_wp2
    go_ret
    exact FIN.out _ hv.out _
  by_cases h2 : (16 : Int) < (nP : Int)
  · have hv : Hid (true = H) := Lib.hid (by rw [HH.out]; simp; omega)
    clear HH
    go_enter Tryz.func6, Tryz.ntmps6
    go_wp2
    go_ret
    exact FIN.out _ hv.out _
  by_cases h3 : (200 : Int) < (nL : Int)
  · have hv : Hid (true = H) := Lib.hid (by rw [HH.out]; simp; omega)
    clear HH
    go_enter Tryz.func6, Tryz.ntmps6
    go_wp2
    go_ret
    exact FIN.out _ hv.out _
  by_cases h4 : (2048 : Int) < (tx.size : Int)
  · have hv : Hid (true = H) := Lib.hid (by rw [HH.out]; simp; omega)
    clear HH
    go_enter Tryz.func6, Tryz.ntmps6
    go_wp2
    go_ret
    exact FIN.out _ hv.out _
  · have hv : Hid (false = H) := Lib.hid (by rw [HH.out]; symm; simp; omega)
    clear HH
    go_enter Tryz.func6, Tryz.ntmps6
    go_wp2
    go_ret
    exact FIN.out _ hv.out _
end Go.Proofs.YtgdbhmlmioihpaaGreatDoor
end
