/- A cpu and a space, and the document's, side by side: what stays when one of them turns. -/
import Derived.Test.YtgdbhmlmioihpaaDoorX19
import Derived.Test.YtgdbhmlmioihpaaDoorX23
import Derived.Test.YtgdbhmlmioihpaaDoorX26
set_option linter.unusedVariables false
namespace Go.Proofs.YtgdbhmlmioihpaaDoor
open Go Go.RowKit Go.Maps

/-- The cpu and the space of the program, and of the document; all of them from block G on. -/
structure Fr (w0 : World) (G p b e n h g : Nat) (c : Cp) (A : As) (c' : Cp) (A' : As) (w : World) : Prop where
  cpu : CAt w p c
  sp : SpaceAt w b e n A
  k : KAt w h c'
  rf : RefAt w G g A'
  gp : G ≤ p
  gb : G ≤ b
  gh : G ≤ h
  low : Below G w0 w
  gs : G ≤ w.heap.size
section
variable {w0 w w' : World} {G p b e n h g : Nat} {c c2 c' : Cp} {A A2 A' : As}
theorem CAt.below (hc : CAt w p c) (hb : Below w.heap.size w w') : CAt w' p c := by
  have hc : Blk w p 47 (ccs c) := hc
  exact hc.below hb hc.lt
theorem Fr.below (f : Fr w0 G p b e n h g c A c' A' w) (hb : Below w.heap.size w w') : Fr w0 G p b e n h g c A c' A' w' :=
  ⟨f.cpu.below hb, f.sp.below hb f.sp.hi, f.k.below hb, f.rf.below hb, f.gp, f.gb, f.gh, f.low.trans (hb.mono f.gs), Nat.le_trans f.gs hb.size⟩
theorem Fr.setreg (f : Fr w0 G p b e n h g c A c' A' w) (hg : w.grownBy w' (some p)) (hc : CAt w' p c2) : Fr w0 G p b e n h g c2 A c' A' w' := by
  have hc0 : Blk w p 47 (ccs c) := f.cpu
  have hkeep : ∀ j t cs, Blk w j t cs → t ≠ 47 → Blk w' j t cs := fun j t cs hb ht => hb.grown hg (by intro he; cases he; exact hb.ne hc0 ht rfl)
  obtain ⟨a, cp, L, hrf⟩ := f.rf
  exact ⟨hc, f.sp.aside hg hc0 (by decide) (by decide), hkeep _ _ _ f.k (by decide), ⟨a, cp, L, hrf.same fun j t cs h1 h2 => hkeep j t cs h1 (by rcases h2 with rfl | rfl | rfl | rfl <;> decide)⟩, f.gp, f.gb, f.gh,
    f.low.grown hg f.gs (fun j hj => by cases hj; exact f.gp), Nat.le_trans f.gs hg.size⟩
theorem grown_set (w : World) (k i : Nat) (v : Value) : w.grownBy (w.setCell ⟨k, i, none⟩ v) (some k) :=
  ⟨rfl, rfl, rfl, by simp, fun j hj hr => Below.heap_setCell w ⟨k, i, none⟩ v j (by rintro rfl; exact hr rfl)⟩
/-- The document's cpu turns. -/
theorem Fr.kreg (f : Fr w0 G p b e n h g c A c' A' w) (d : Nat) (v : Int) (hd : d < 16) (h0 : d ≠ 0) : Fr w0 G p b e n h g c A (setR c' d v) A' (w.setCell ⟨h, d, none⟩ (.int .u32 v)) := by
  have hk0 : Blk w h 76 (rcs c') := f.k
  have hc0 : Blk w p 47 (ccs c) := f.cpu
  have hg := grown_set w h d (.int .u32 v)
  exact ⟨hc0.far (p := ⟨h, d, none⟩) (hc0.ne hk0 (by decide)) _, f.sp.aside hg hk0 (by decide) (by decide), f.k.setR d v hd h0, f.rf.kset f.k d _, f.gp, f.gb, f.gh,
    f.low.grown hg f.gs (fun j hj => by cases hj; exact f.gh), Nat.le_trans f.gs hg.size⟩
/-- The program's space turns. -/
theorem Fr.turn {e2 n2 : Nat} (f : Fr w0 G p b e n h g c A c' A' w) (ht : Turn w w' b e) (hs : SpaceAt w' b e2 n2 A2) : Fr w0 G p b e2 n2 h g c A2 c' A' w' := by
  have hc0 : Blk w p 47 (ccs c) := f.cpu
  exact ⟨ht.keep f.sp hc0 (by decide), hs, f.k.turn ht f.sp, f.rf.turn ht f.sp, f.gp, f.gb, f.gh, f.low.trans (ht.below f.gb f.gs), Nat.le_trans f.gs ht.size⟩
/-- The document's space turns. -/
theorem Fr.rturn (f : Fr w0 G p b e n h g c A c' A' w) (ht : RTurn G w w') (hr : RefAt w' G g A2) : Fr w0 G p b e n h g c A c' A2 w' := by
  have hc0 : Blk w p 47 (ccs c) := f.cpu
  exact ⟨ht.keep hc0 (by decide) (by decide), ht.space f.sp, f.k.rturn ht, hr, f.gp, f.gb, f.gh, f.low.trans (ht.below f.gs), Nat.le_trans f.gs ht.size⟩
theorem Fr.mono {n2 : Nat} (f : Fr w0 G p b e n h g c A c' A' w) (hn : n ≤ n2) : Fr w0 G p b e n2 h g c A c' A' w := ⟨f.cpu, f.sp.mono hn, f.k, f.rf, f.gp, f.gb, f.gh, f.low, f.gs⟩
end

/-! what a state makes -/
def cpR (R : List Int) (x : Int) (k : Nat) : Cp := ⟨fun j => if j ≠ 0 ∧ j < k then R.getD j 0 else 0, x⟩
theorem cpR_zero (R : List Int) (x : Int) : cpR R x 0 = ⟨fun _ => 0, x⟩ := by unfold cpR; simp
theorem cpR_succ (R : List Int) (x : Int) (k : Nat) : setR (cpR R x k) k (R.getD k 0) = cpR R x (k + 1) := by
  unfold setR cpR
  congr 1
  funext j
  by_cases hj : j = k
  · subst hj
    by_cases h0 : j = 0
    · subst h0; simp
    · simp [h0]
  · by_cases h1 : j < k
    · have : j < k + 1 := by omega
      simp [hj, h1, this]
    · have : ¬ j < k + 1 := by omega
      simp [hj, h1, this]
theorem cpR_ok {R : List Int} {x : Int} (hR : ∀ j, j < R.length → 0 ≤ R.getD j 0 ∧ R.getD j 0 < 4294967296) (h0 : 0 ≤ x) (h1 : x < 4294967296) (k : Nat) (hk : k ≤ R.length) : (cpR R x k).Ok := by
  refine ⟨fun j => ?_, fun j => ?_, rfl, h0, h1⟩
  · show 0 ≤ if j ≠ 0 ∧ j < k then R.getD j 0 else 0
    split
    · exact (hR j (by omega)).1
    · decide
  · show (if j ≠ 0 ∧ j < k then R.getD j 0 else 0) < 4294967296
    split
    · exact (hR j (by omega)).2
    · decide
def asP (P : List Int) (k : Nat) : As := fun i => if i < k ∧ P.getD i 0 < 8 then some (newPg (P.getD i 0).toNat) else none
theorem asP_zero (P : List Int) : asP P 0 = fun _ => none := by funext i; unfold asP; rw [if_neg (by omega)]
theorem asP_skip (P : List Int) (k : Nat) (h : ¬ P.getD k 0 < 8) : asP P (k + 1) = asP P k := by
  funext i
  unfold asP
  by_cases hi : i = k
  · subst hi; rw [if_neg (by omega), if_neg (by omega)]
  · by_cases h1 : i < k ∧ P.getD i 0 < 8
    · rw [if_pos h1, if_pos (by omega)]
    · rw [if_neg h1, if_neg (by omega)]
theorem asP_map (P : List Int) (k : Nat) (hk : k ≤ 16) (pm : Nat) (hp : P.getD k 0 = (pm : Int)) (h : pm < 8) : mapE (asP P k) (256 * k) pm = 0 ∧ mapA (asP P k) (256 * k) pm = asP P (k + 1) := by
  have hn : asP P k (256 * k / 256) = none := by
    rw [show 256 * k / 256 = k by omega]
    unfold asP
    rw [if_neg (by omega)]
  have hE : mapE (asP P k) (256 * k) pm = 0 := by
    unfold mapE
    rw [if_neg (by omega), hn]
    rfl
  refine ⟨hE, ?_⟩
  unfold mapA
  rw [if_pos hE, show 256 * k / 256 = k by omega]
  funext i
  unfold upd asP
  by_cases hi : i = k
  · subst hi
    rw [if_pos rfl, if_pos (by omega), hp]
    rfl
  · rw [if_neg hi]
    by_cases h1 : i < k ∧ P.getD i 0 < 8
    · rw [if_pos h1, if_pos (by omega)]
    · rw [if_neg h1, if_neg (by omega)]
end Go.Proofs.YtgdbhmlmioihpaaDoor
