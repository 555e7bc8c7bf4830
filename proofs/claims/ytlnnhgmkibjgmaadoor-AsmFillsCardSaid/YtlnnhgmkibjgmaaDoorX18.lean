/- Some texts of one proof, one behind the other; each has its own head below. -/
import Derived.Test.YtlnnhgmkibjgmaaDoorX15
import Derived.Test.YtlnnhgmkibjgmaaDoorProg
import Derived.WalkKit
import Derived.ProofKit
import Derived.Below
import Derived.ChangeSame
import Derived.Test.YtlnnhgmkibjgmaaDoorRows
import Derived.LaidMore
import Derived.OpenShut
import Derived.MakeChecks
import Derived.Stop.Joined
/- The last step of a law's row: a call that answers true, and behind which all that was there before stands as it stood. -/
section
namespace Go.Proofs.YtlnnhgmkibjgmaaDoor
open Go.RowKit Go.WideShapes Go.ChangeShapes

theorem own : ownKnob Tryd.prog.godebug = none := by kernel_rfl

section
variable {H : Type} {enc : TypeId × Value → H} {P : Program}

/-- A call that answers one bool, of whose world 'Below' is known: the row's post. -/
theorem law_post {f : Func} {s : ChangeSpec} {W W' : World} {args : Array Value} {x : Bool} {ds : List (DataW H)} {before : List MemPlace}
    (hW : DataW.Whole enc P f.params.toList s.vars false W args.toList ds [] before) (hvar : s.vars = []) (hs : s.fn H (ds ++ []) = { results := [.lit (.bool x)], args := ds })
    (hf : f.resultTypes = #[4]) (hty : P.underlying 4 = some .bool)
    (hargs : ∀ sp : Nat → Bool, DataW.TrodAll enc P W' 0 sp true f.params.toList args.toList ds before) (hb : Below W.heap.size W W') :
    s.post enc P f false true false false W args (.bool x) W' := by
  have hlt : ∀ p ∈ before, p.block < W.heap.size := fun p hp => hW.lt p hp
  have hres : ∀ (b : Nat) (sp : Nat → Bool) (hd : Bool), DataW.TrodAll enc P W' b sp hd f.resultTypes.toList ((Value.bool x).resultList f.resultTypes.size) (s.fn H (ds ++ [])).results [] := by
    intro b sp hd
    rw [hs, hf]
    exact trodAll_mk1 (shut_bool hty x)
  have hargs' : ∀ sp : Nat → Bool, DataW.TrodAll enc P W' 0 sp true f.params.toList args.toList (s.fn H (ds ++ [])).args before := by
    intro sp
    rw [hs]
    exact hargs sp
  have hvars : ∀ sp : Nat → Bool, DataW.TrodVars enc P W' sp s.vars (s.fn H (ds ++ [])).vars [] := by
    intro sp
    rw [hs, hvar]
    rfl
  refine ⟨ds, [], before, [], before, [], hW, hres _ _ _, hargs' _, hvars _, World.keptBut_mono (fun p hp => ⟨hp, Or.inr (by simpa using hp)⟩) (hb.frame (· ∈ before)), fun h => ?_⟩
  cases h
end

end Go.Proofs.YtlnnhgmkibjgmaaDoor
end

/- What the listed table gives: it stands as the program's text lays it. -/
section
set_option linter.unusedVariables false
namespace Go.Proofs.YtlnnhgmkibjgmaaDoor.I
open Go.RowKit

theorem gUsed : Tryd.prog.globalNamed "aedicule/insn.used" = some 0 := by kernel_rfl
theorem tUsed : (Tryd.prog.globals[0]?).map (·.type) = some 119 := by kernel_rfl
theorem cUsed : Tryd.prog.cellsOf 5 = 1 := by kernel_rfl
theorem laid_used : (Rows.laid_aedicule_insn_used : DataW Unit) = .agg (Ix.tab.map fun (x : Nat) => .lit (.int .u8 (x : Int))) := rfl
theorem take_one {α : Type} (l : List α) (j : Nat) (v : α) (h : (l.drop j).take 1 = [v]) : l[j]? = some v := by
  have h2 : ((l.drop j).take 1)[0]? = some v := by rw [h]; rfl
  rw [List.getElem?_take_of_lt (by omega), List.getElem?_drop] at h2
  simpa using h2
theorem tabled_of_laid {W : World} (h : laidMetH Tryd.prog [("aedicule/insn.used", Rows.laid_aedicule_insn_used)] W) : Tabled W := by
  rw [MakeChecks.laidMetH_plain _ _ _ (by kernel_rfl)] at h
  obtain ⟨ps, ⟨g0, t0, cs0, f0, p0, q0, hg0, ht0, hv0, hd0, _⟩, _, _⟩ := h
  obtain rfl := Option.some.inj (gUsed.symm.trans hg0)
  obtain rfl := Option.some.inj (tUsed.symm.trans ht0)
  obtain ⟨xs, m1, rfl, hx, hlen, hn, hel⟩ := DataW.trod_array Tryd.underlying119 hd0
  rw [laid_used] at hx
  simp only [Prod.mk.injEq, DataW.agg.injEq] at hx
  have hl : Ix.tab.length = 51 := by decide
  have hc : ∀ j, j < 51 → W.cell? ⟨0, j, none⟩ = some (.int .u8 ((Ix.tab.getD j 0 : Nat) : Int)) := by
    intro j hj
    have h1 := hel j hj
    rw [cUsed, Nat.mul_one] at h1
    have hxj : xs[j]? = some xs[j] := by simp [hn, hj]
    obtain ⟨k, e1, e2, _⟩ := DataW.trod_int Tryd.underlying5 (h1.trans hxj)
    have hv := World.var?_cell gUsed hv0 j
    rw [hv, ← Array.getElem?_toList, take_one _ _ _ e1]
    have h3 : (xs.map (·.1))[j]? = some (.lit (.int .u8 k)) := by rw [List.getElem?_map, hxj]; simp [e2]
    rw [← hx.1, List.getElem?_map, List.getElem?_eq_getElem (by rw [hl]; exact hj)] at h3
    simp only [Option.map_some, Option.some.injEq, DataW.lit.injEq, Lit.int.injEq, true_and] at h3
    rw [← h3]
    simp [List.getD_eq_getElem?_getD, hl, hj]
  refine ⟨?_, hc⟩
  rcases Nat.lt_or_ge 0 W.heap.size with h | h
  · exact h
  · have := hc 0 (by omega)
    simp [World.cell?, Array.getElem?_eq_none h] at this
end Go.Proofs.YtlnnhgmkibjgmaaDoor.I
end
