/- A state that came in: its numbers, perms, instructions and bytes. -/
import Derived.Test.YtgdbhmlmioihpaaDoorX22
import Derived.Test.YtgdbhmlmioihpaaDoorX00
import Derived.ProofKit
import Derived.Below
import Derived.OpenShut
import Derived.WalkArith
import Derived.Deep.Slices
import Derived.SizedLaws
set_option linter.unusedVariables false
set_option maxRecDepth 100000
namespace Go.Proofs.YtgdbhmlmioihpaaDoor
open Go Go.ChangeShapes Go.WideShapes Go.RowKit

/-- Numbers of a kind that a slice leads to. -/
def NumsAt (k : IntKind) (w : World) (a0 : Option Addr) (l : List Int) : Prop := ∀ i, i < l.length → ∃ g o, a0 = some ⟨g, o, none⟩ ∧ g < w.heap.size ∧ ∀ j, j < l.length → w.cell? ⟨g, o + j, none⟩ = some (.int k (l.getD j 0))
theorem NumsAt.below {k : IntKind} {w w' : World} {a0 : Option Addr} {l : List Int} {B : Nat} (h : NumsAt k w a0 l) (hb : Below B w w') (hB : B = w.heap.size) : NumsAt k w' a0 l := fun i hi => by
  obtain ⟨g, o, h1, h2, h3⟩ := h i hi
  exact ⟨g, o, h1, Nat.lt_of_lt_of_le h2 hb.size, fun j hj => (hb.cell (p := ⟨g, o + j, none⟩) (show g < B by omega)).trans (h3 j hj)⟩
/-- Instructions that a slice leads to. -/
def InsAt (w : World) (a0 : Option Addr) (l : List I.Ins) : Prop := ∀ k, k < l.length → ∃ g o, a0 = some ⟨g, o, none⟩ ∧ g < w.heap.size ∧ I.Lie w g o l
theorem InsAt.below {w w' : World} {a0 : Option Addr} {l : List I.Ins} {B : Nat} (h : InsAt w a0 l) (hb : Below B w w') (hB : B = w.heap.size) : InsAt w' a0 l := fun i hi => by
  obtain ⟨g, o, h1, h2, h3⟩ := h i hi
  exact ⟨g, o, h1, Nat.lt_of_lt_of_le h2 hb.size, h3.below hb (by omega)⟩

/-- A state. -/
structure Sta where
  R : List Int
  pc : Int
  P : List Int
  at' : Int
  L : List I.Ins
  wh : Int
  tx : ByteArray
structure Sta.fits (s : Sta) : Prop where
  r : ∀ j, j < s.R.length → 0 ≤ s.R.getD j 0 ∧ s.R.getD j 0 < 4294967296
  pc : 0 ≤ s.pc ∧ s.pc < 4294967296
  p : ∀ j, j < s.P.length → 0 ≤ s.P.getD j 0 ∧ s.P.getD j 0 < 256
  at' : 0 ≤ s.at' ∧ s.at' < 65536
  l : ∀ k, k < s.L.length → (s.L.getD k I.Ins.nought).fits
  wh : 0 ≤ s.wh ∧ s.wh < 65536
/-- Where its slices begin, and how much room each has. -/
structure Plc where
  aR : Option Addr
  cR : Nat
  aP : Option Addr
  cP : Nat
  aL : Option Addr
  cL : Nat
def Sta.cells (s : Sta) (q : Plc) : List Value := [.slice q.aR s.R.length q.cR, .int .u32 s.pc, .slice q.aP s.P.length q.cP, .int .u16 s.at', .slice q.aL s.L.length q.cL, .int .u16 s.wh, .string s.tx]
structure Sta.lies (s : Sta) (q : Plc) (w : World) : Prop where
  r : NumsAt .u32 w q.aR s.R
  p : NumsAt .u8 w q.aP s.P
  l : InsAt w q.aL s.L
theorem Sta.lies.below {s : Sta} {q : Plc} {w w' : World} {B : Nat} (h : s.lies q w) (hb : Below B w w') (hB : B = w.heap.size) : s.lies q w' := ⟨h.r.below hb hB, h.p.below hb hB, h.l.below hb hB⟩

section
variable {H : Type} {enc : TypeId × Value → H} {W : World} {spare : Nat → Bool} {held : Bool}
theorem slice_of {ts te : TypeId} (hu : Tryd.prog.underlying ts = some (.slice te)) {n : Nat} {v : Value} {y : DataW H × List MemPlace} (g : DataW.trod enc Tryd.prog W 0 spare held n ts [v] = some y) :
    ∃ a0 m c, v = .slice a0 m c ∧ DataW.Trod enc Tryd.prog W 0 spare held ts (.slice a0 m c) y.1 y.2 := by
  rcases Go.Deep.open_slice hu g with ⟨hcs, _⟩ | ⟨a, len, cap, m, n', D, Pl, hcs, _, _, _, _, _, _⟩
  · simp at hcs
    subst hcs
    exact ⟨_, _, _, rfl, n, by simpa [Value.cells] using g⟩
  · simp at hcs
    subst hcs
    exact ⟨_, _, _, rfl, n, by simpa [Value.cells] using g⟩
theorem open_u32s {a0 : Option Addr} {n c : Nat} {x : DataW H} {p : List MemPlace} (h : DataW.Trod enc Tryd.prog W 0 spare held 60 (.slice a0 n c) x p) :
    ∃ l : List Int, l.length = n ∧ (∀ j, j < l.length → 0 ≤ l.getD j 0 ∧ l.getD j 0 < 4294967296) ∧ NumsAt .u32 W a0 l := by
  obtain ⟨fuel, hf⟩ := h
  rcases Go.Deep.open_slice Tryd.underlying60 hf with ⟨hcs, _⟩ | ⟨a, len, cap, m, n', D, Pl, hcs, _, hl, _, hmm, _, hcell⟩
  · simp [Value.cells] at hcs
    obtain ⟨_, rfl, _⟩ := hcs
    exact ⟨[], rfl, fun j hj => absurd hj (by simp), fun j hj => absurd hj (by simp)⟩
  · simp [Value.cells] at hcs
    obtain ⟨rfl, rfl, rfl⟩ := hcs
    rw [show Tryd.prog.cellsOf 22 = 1 by kernel_rfl] at hcell
    have hel : ∀ i, ∃ y : Int, i < n → (0 ≤ y ∧ y < 4294967296) ∧ W.cell? (a.add i) = some (.int .u32 y) := by
      intro i
      by_cases hi : i < n
      · obtain ⟨cs', h1, h2⟩ := hcell i (by rw [hmm]; split <;> omega)
        obtain ⟨y, e, _, wf⟩ := DataW.trod_int Tryd.underlying22 h2
        subst e
        obtain ⟨_, _, hj⟩ := World.cells?_some h1
        have := hj 0 (by decide)
        have hb := bounds_u32 wf
        refine ⟨y, fun _ => ⟨by omega, ?_⟩⟩
        simpa [Addr.add] using this
      · exact ⟨0, fun h => absurd h hi⟩
    obtain ⟨X, hX⟩ := Classical.axiomOfChoice hel
    have hget : ∀ j, j < n → ((List.range n).map X).getD j 0 = X j := fun j hj => by simp [List.getD_eq_getElem?_getD, hj]
    refine ⟨(List.range n).map X, by simp, fun j hj => ?_, fun i hi => ?_⟩
    · have hj' : j < n := by simpa using hj
      rw [hget j hj']
      exact (hX j hj').1
    · have hn : 0 < n := by have : i < n := by simpa using hi
                            omega
      obtain ⟨g, o, spot⟩ := a
      have h00 := (hX 0 hn).2
      have hspot : spot = none := by simpa [Addr.add] using World.cell?_spot h00
      subst hspot
      have hbl : g < W.heap.size := by
        rcases Nat.lt_or_ge g W.heap.size with h | h
        · exact h
        · rw [Addr.add_mid] at h00
          simp [World.cell?, Array.getElem?_eq_none h] at h00
      refine ⟨g, o, rfl, hbl, fun j hj => ?_⟩
      have hj' : j < n := by simpa using hj
      rw [hget j hj', ← Addr.add_mid]
      exact (hX j hj').2
theorem open_u8s {a0 : Option Addr} {n c : Nat} {x : DataW H} {p : List MemPlace} (h : DataW.Trod enc Tryd.prog W 0 spare held 56 (.slice a0 n c) x p) :
    ∃ l : List Int, l.length = n ∧ (∀ j, j < l.length → 0 ≤ l.getD j 0 ∧ l.getD j 0 < 256) ∧ NumsAt .u8 W a0 l := by
  obtain ⟨fuel, hf⟩ := h
  rcases Go.Deep.open_slice Tryd.underlying56 hf with ⟨hcs, _⟩ | ⟨a, len, cap, m, n', D, Pl, hcs, _, hl, _, hmm, _, hcell⟩
  · simp [Value.cells] at hcs
    obtain ⟨_, rfl, _⟩ := hcs
    exact ⟨[], rfl, fun j hj => absurd hj (by simp), fun j hj => absurd hj (by simp)⟩
  · simp [Value.cells] at hcs
    obtain ⟨rfl, rfl, rfl⟩ := hcs
    rw [show Tryd.prog.cellsOf 5 = 1 by kernel_rfl] at hcell
    have hel : ∀ i, ∃ y : Int, i < n → (0 ≤ y ∧ y < 256) ∧ W.cell? (a.add i) = some (.int .u8 y) := by
      intro i
      by_cases hi : i < n
      · obtain ⟨cs', h1, h2⟩ := hcell i (by rw [hmm]; split <;> omega)
        obtain ⟨y, e, _, wf⟩ := DataW.trod_int Tryd.underlying5 h2
        subst e
        obtain ⟨_, _, hj⟩ := World.cells?_some h1
        have := hj 0 (by decide)
        have hb := bounds_u8 wf
        refine ⟨y, fun _ => ⟨by omega, ?_⟩⟩
        simpa [Addr.add] using this
      · exact ⟨0, fun h => absurd h hi⟩
    obtain ⟨X, hX⟩ := Classical.axiomOfChoice hel
    have hget : ∀ j, j < n → ((List.range n).map X).getD j 0 = X j := fun j hj => by simp [List.getD_eq_getElem?_getD, hj]
    refine ⟨(List.range n).map X, by simp, fun j hj => ?_, fun i hi => ?_⟩
    · have hj' : j < n := by simpa using hj
      rw [hget j hj']
      exact (hX j hj').1
    · have hn : 0 < n := by have : i < n := by simpa using hi
                            omega
      obtain ⟨g, o, spot⟩ := a
      have h00 := (hX 0 hn).2
      have hspot : spot = none := by simpa [Addr.add] using World.cell?_spot h00
      subst hspot
      have hbl : g < W.heap.size := by
        rcases Nat.lt_or_ge g W.heap.size with h | h
        · exact h
        · rw [Addr.add_mid] at h00
          simp [World.cell?, Array.getElem?_eq_none h] at h00
      refine ⟨g, o, rfl, hbl, fun j hj => ?_⟩
      have hj' : j < n := by simpa using hj
      rw [hget j hj', ← Addr.add_mid]
      exact (hX j hj').2

theorem open_state {r : Reach} {b0 : Nat} {v : Value} {x : DataW H} {p : List MemPlace} (hv : Value.okWide Tryd.prog W r b0 63 v) (h : DataW.Trod enc Tryd.prog W 0 spare held 63 v x p) :
    ∃ (s : Sta) (q : Plc), v = .agg (s.cells q).toArray ∧ s.fits ∧ s.lies q W := by
  obtain ⟨cs, rfl, hsz⟩ := okWide_struct Tryd.underlying63 hv
  obtain ⟨fuel, hf⟩ := h
  obtain ⟨xs, n, _, _, hl, hxl, hg⟩ := DataW.trod_struct Tryd.underlying63 hf
  rw [show Tryd.prog.cellsOf 63 = 7 by kernel_rfl] at hl
  have k1 : Tryd.prog.cellsOf 60 = 1 := by kernel_rfl
  have k2 : Tryd.prog.cellsOf 22 = 1 := by kernel_rfl
  have k3 : Tryd.prog.cellsOf 56 = 1 := by kernel_rfl
  have k4 : Tryd.prog.cellsOf 61 = 1 := by kernel_rfl
  have k5 : Tryd.prog.cellsOf 59 = 1 := by kernel_rfl
  have k6 : Tryd.prog.cellsOf 9 = 1 := by kernel_rfl
  have hcs : (Value.agg cs).cells.toList = cs.toList := by simp [Value.cells]
  obtain ⟨vs, hvs⟩ : ∃ vs, vs = (Value.agg cs).cells.toList := ⟨_, rfl⟩
  rw [← hvs] at hl hg
  match vs, hl, hxl, hvs with
  | [v0, v1, v2, v3, v4, v5, v6], _, hxl, hvs =>
    match xs, hxl with
    | [y0, y1, y2, y3, y4, y5, y6], _ =>
      have g0 : DataW.trod enc Tryd.prog W 0 spare held n 60 [v0] = some y0 := by simpa [k1, k2, k3, k4, k5, k6] using hg 0 _ rfl
      have g1 : DataW.trod enc Tryd.prog W 0 spare held n 22 [v1] = some y1 := by simpa [k1, k2, k3, k4, k5, k6] using hg 1 _ rfl
      have g2 : DataW.trod enc Tryd.prog W 0 spare held n 56 [v2] = some y2 := by simpa [k1, k2, k3, k4, k5, k6] using hg 2 _ rfl
      have g3 : DataW.trod enc Tryd.prog W 0 spare held n 61 [v3] = some y3 := by simpa [k1, k2, k3, k4, k5, k6] using hg 3 _ rfl
      have g4 : DataW.trod enc Tryd.prog W 0 spare held n 59 [v4] = some y4 := by simpa [k1, k2, k3, k4, k5, k6] using hg 4 _ rfl
      have g5 : DataW.trod enc Tryd.prog W 0 spare held n 61 [v5] = some y5 := by simpa [k1, k2, k3, k4, k5, k6] using hg 5 _ rfl
      have g6 : DataW.trod enc Tryd.prog W 0 spare held n 9 [v6] = some y6 := by simpa [k1, k2, k3, k4, k5, k6] using hg 6 _ rfl
      obtain ⟨aR, nR, cR, rfl, t0⟩ := slice_of Tryd.underlying60 g0
      obtain ⟨pc, e1, _, w1⟩ := DataW.trod_int Tryd.underlying22 g1
      obtain ⟨aP, nP, cP, rfl, t2⟩ := slice_of Tryd.underlying56 g2
      obtain ⟨at3, e3, _, w3⟩ := DataW.trod_int Tryd.underlying61 g3
      obtain ⟨aL, nL, cL, rfl, t4⟩ := slice_of Tryd.underlying59 g4
      obtain ⟨wh, e5, _, w5⟩ := DataW.trod_int Tryd.underlying61 g5
      obtain ⟨tx, e6, _, w6⟩ := DataW.trod_string Tryd.underlying9 g6
      simp at e1 e3 e5 e6
      subst e1 e3 e5 e6
      obtain ⟨R, rfl, fR, hR⟩ := open_u32s t0
      obtain ⟨P, rfl, fP, hP⟩ := open_u8s t2
      have hL : ∃ L : List I.Ins, L.length = nL ∧ (∀ k, k < L.length → (L.getD k I.Ins.nought).fits) ∧ InsAt W aL L := by
        rcases I.open_insns t4 with ⟨_, rfl, _⟩ | ⟨ad, l, rfl, hl, hf, hL⟩
        · exact ⟨[], rfl, fun k hk => absurd hk (by simp), fun k hk => absurd hk (by simp)⟩
        · refine ⟨l, hl, hf, fun k hk => ?_⟩
          rcases hL with rfl | ⟨g, o, rfl, hg, hL⟩
          · exact absurd hk (by simp)
          · exact ⟨g, o, rfl, hg, hL⟩
      obtain ⟨L, rfl, fL, hL⟩ := hL
      have b1 := bounds_u32 w1
      have b3 := bounds_u16 w3
      have b5 := bounds_u16 w5
      refine ⟨⟨R, pc, P, at3, L, wh, tx⟩, ⟨aR, cR, aP, cP, aL, cL⟩, ?_, ⟨fR, ⟨by simp only; omega, by simp only; omega⟩, fP, ⟨by simp only; omega, by simp only; omega⟩, fL, ⟨by simp only; omega, by simp only; omega⟩⟩, ⟨hR, hP, hL⟩⟩
      congr 1
      apply Array.toList_inj.1
      rw [← hcs, ← hvs]
      rfl
end
def heavyS (s : Sta) : Bool := decide (40 < s.R.length) || decide (16 < s.P.length) || decide (200 < s.L.length) || decide (2048 < s.tx.size)
theorem not_heavyS {s : Sta} (h : heavyS s = false) : s.R.length ≤ 40 ∧ s.P.length ≤ 16 ∧ s.L.length ≤ 200 ∧ s.tx.size ≤ 2048 := by
  unfold heavyS at h
  simp only [Bool.or_eq_false_iff, decide_eq_false_iff_not] at h
  omega
end Go.Proofs.YtgdbhmlmioihpaaDoor
