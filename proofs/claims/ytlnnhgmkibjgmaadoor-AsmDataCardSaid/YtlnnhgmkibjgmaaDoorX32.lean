/- append(nil, s...) as an operation of a region that draws its order. -/
import Derived.Test.YtlnnhgmkibjgmaaDoorX17
import Derived.Deep.AppendLies
import Derived.Deep.RegionHeld3
set_option linter.unusedVariables false
namespace Go.Proofs.YtlnnhgmkibjgmaaDoor
open Go Go.RowKit

variable {P : Program} {w : World}
theorem step_append_all {ops : Array Oper} {o : Oper} {a : Act} {K : Act → World → Prop} {Q : Exit → Act → World → Prop} {E : Prop} (hgd : o.guard = none) (s x : Operand) (t : TypeId)
    (ho : o.op = .call { callee := .builtin .append, args := #[s, x], argTypes := #[t, t] })
    (B : Nat) (e : TypeId) (i : TypeInfo) (z : Value) (size bytes : Nat) (ht : P.underlying t = some (.slice e)) (hi : P.info? e = some i) (hz : i.zero = some z)
    (hsize : i.size = size) (hby : i.bytes = bytes) (hzs : z.cells.size = size) (hsz : 0 < size)
    (hs : a.eval s = .slice none 0 0) (v : Value) (n : Nat) (cs : Nat → List Value) (hx : a.eval x = v) (hv : SlC w v n size cs) (hcs : ∀ j, j < n → (cs j).length = size)
    (h1 : ∀ j, j < n → ∀ u ∈ cs j, u.oneCell' = true) (hb1 : n ≤ maxLen) (hbytes : n * bytes ≤ 140737488355328) (hB : B ≤ w.heap.size)
    (h : ∀ v' w', w'.ownsRow B e size v' n (flat cs n) → w.grownBy w' none → K (a.put o.dst v') w') :
    if Region.wanted o (yielded ops a.tmps) = true then Oper.wp P o a w K Q else E := by
  obtain ⟨ao, c, rfl, h2⟩ := hv
  have hown := World.ownsRow_nil w B e size
  rcases Nat.eq_zero_or_pos n with h0 | h0
  · subst h0
    rw [if_pos (by simp [Region.wanted, hgd])]
    have hrun : (Builtin.append_ #[t, t] o.type #[.slice none 0 0, .slice ao 0 c]).run P w = .ok (.slice none 0 0) w := by
      cases ao <;> simp [Builtin.append_, run_underlying ht, sizeOf, typeInfo, hi, Builtin.lenOf, Builtin.firstCells, loadCells, loadCellsFrom, Result.andThen]
    unfold Oper.wp
    simp [execOp, ho, resolve, invoke, builtin, hs, hx, hrun, Result.andThen]
    exact h _ _ hown ⟨rfl, rfl, rfl, Nat.le_refl _, fun _ _ _ => rfl⟩
  · obtain ⟨b, o', rfl, h4, h5⟩ := h2 h0
    refine step_append_lies (P := P) w hgd s x t ho B e i z size bytes ht hi hz hsize hby hzs hsz (.slice none 0 0) 0 [] hs hown ⟨b, o', none⟩ n c (flat cs n) hx (flat_length n hcs) ?_ (flat_all n h1) h0 (by omega) (by rw [Nat.zero_add]; exact hbytes) hB w.heap.size rfl ?_
    · intro m u hm
      obtain ⟨j, i', hj, rfl, hi', hu⟩ := flat_at n hcs m u hm
      rw [Addr.add_mid, ← Nat.add_assoc]
      exact h5 j hj i' u hu
    · intro g cap w' h6 h7 _ _
      rw [List.nil_append, Nat.zero_add] at h6
      rw [Nat.zero_add]
      exact h _ _ h6 h7
end Go.Proofs.YtlnnhgmkibjgmaaDoor
