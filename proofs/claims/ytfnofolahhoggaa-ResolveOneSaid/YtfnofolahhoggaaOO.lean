/- Slices of elements of the call's own; append of a whole slice onto nothing. -/
import Derived.Test.YtfnofolahhoggaaOA
import Derived.Laws.AppendOwn
import Derived.Laws.AppendOwnNone
import Derived.Laws.OwnMore
import Derived.Deep.MidRow
set_option linter.unusedVariables false
namespace Go.Proofs.Ytfnofolahhoggaa
open Go Go.RowKit Oj

/-- The cells of n elements, one behind the other. -/
def flat (cs : Nat → List Value) : Nat → List Value
  | 0 => []
  | n + 1 => flat cs n ++ cs n
theorem flat_length {cs : Nat → List Value} {z : Nat} : ∀ (n : Nat), (∀ j, j < n → (cs j).length = z) → (flat cs n).length = n * z
  | 0, _ => by simp [flat]
  | n + 1, h => by
    rw [flat, List.length_append, flat_length n (fun j hj => h j (by omega)), h n (by omega), Nat.succ_mul]
theorem flat_at {cs : Nat → List Value} {z : Nat} : ∀ (n : Nat), (∀ j, j < n → (cs j).length = z) → ∀ (m : Nat) u, (flat cs n)[m]? = some u → ∃ j i, j < n ∧ m = j * z + i ∧ i < z ∧ (cs j)[i]? = some u
  | 0, _, m, u, h => by simp [flat] at h
  | n + 1, hz, m, u, h => by
    have hl := flat_length n (fun j hj => hz j (by omega))
    rw [flat] at h
    rcases Nat.lt_or_ge m (n * z) with hm | hm
    · rw [List.getElem?_append_left (by omega)] at h
      obtain ⟨j, i, h1, h2⟩ := flat_at n (fun j hj => hz j (by omega)) m u h
      exact ⟨j, i, by omega, h2⟩
    · rw [List.getElem?_append_right (by omega), hl] at h
      have hi := (List.getElem?_eq_some_iff.1 h).1
      rw [hz n (by omega)] at hi
      exact ⟨n, m - n * z, by omega, by omega, hi, h⟩
theorem flat_get {cs : Nat → List Value} {z : Nat} : ∀ (n : Nat), (∀ j, j < n → (cs j).length = z) → ∀ j i, j < n → i < z → (flat cs n)[j * z + i]? = (cs j)[i]?
  | 0, _, j, i, h, _ => absurd h (by omega)
  | n + 1, hz, j, i, hj, hi => by
    have hl := flat_length n (fun j hj => hz j (by omega))
    rw [flat]
    rcases Nat.lt_or_ge j n with h | h
    · have h3 : j * z + i < n * z := by
        have : (j + 1) * z ≤ n * z := Nat.mul_le_mul_right z h
        rw [Nat.succ_mul] at this
        omega
      rw [List.getElem?_append_left (by omega)]
      exact flat_get n (fun j hj => hz j (by omega)) j i h hi
    · obtain rfl : j = n := by omega
      rw [List.getElem?_append_right (by omega), hl, Nat.add_sub_cancel_left]
theorem flat_congr {cs ds : Nat → List Value} : ∀ (n : Nat), (∀ j, j < n → cs j = ds j) → flat cs n = flat ds n
  | 0, _ => rfl
  | n + 1, h => by rw [flat, flat, flat_congr n (fun j hj => h j (by omega)), h n (by omega)]
theorem flat_all {cs : Nat → List Value} {p : Value → Prop} : ∀ (n : Nat), (∀ j, j < n → ∀ u ∈ cs j, p u) → ∀ u ∈ flat cs n, p u
  | 0, _, u, hu => by simp [flat] at hu
  | n + 1, h, u, hu => by
    rw [flat, List.mem_append] at hu
    rcases hu with hu | hu
    · exact flat_all n (fun j hj => h j (by omega)) u hu
    · exact h n (by omega) u hu

section
variable {P : Program} {w w' : World} {B : Nat} {e : TypeId} {z : Nat} {v : Value} {n : Nat} {cs : Nat → List Value}
/-- An own row of elements reads as these. -/
theorem slC_of_row (hz : ∀ j, j < n → (cs j).length = z) (h : w.ownsRow B e z v n (flat cs n)) : SlC w v n z cs := by
  rcases h.2 with ⟨rfl, h0⟩ | ⟨k, cap, cur, rfl, hBk, hk, hnc, hcm, hcs, htk⟩
  · subst h0
    exact ⟨none, 0, rfl, fun h => absurd h (by omega)⟩
  · refine ⟨_, _, rfl, fun _ => ⟨k, 0, rfl, (Array.getElem?_eq_some_iff.1 hk).1, fun j hj i u hu => ?_⟩⟩
    have hi : i < z := by rw [← hz j hj]; exact (List.getElem?_eq_some_iff.1 hu).1
    have hm : j * z + i < n * z := by
      have : (j + 1) * z ≤ n * z := Nat.mul_le_mul_right z hj
      rw [Nat.succ_mul] at this
      omega
    rw [cell_of_row _ _ _ _ _ _ hk, Nat.zero_add, ← Array.getElem?_toList]
    have h2 : cur.toList[j * z + i]? = (cur.toList.take (n * z))[j * z + i]? := by rw [List.getElem?_take_of_lt hm]
    rw [h2, htk, flat_get n hz j i hj hi]
    exact hu
/-- Own rows of two element types lie apart. -/
theorem row_apart {B' z' n' : Nat} {e' : TypeId} {v' : Value} {xs xs' : List Value} (h : w.ownsRow B e z v n xs) (h' : w.ownsRow B' e' z' v' n' xs') (hne : e ≠ e') : v.ownBlock = none ∨ v.ownBlock ≠ v'.ownBlock := by
  rcases h.2 with ⟨rfl, _⟩ | ⟨k, cap, cur, rfl, _, hk, _⟩
  · left; rfl
  · rcases h'.2 with ⟨rfl, _⟩ | ⟨k', cap', cur', rfl, _, hk', _⟩
    · right; intro hc; cases hc
    · right
      intro hc
      simp only [Value.ownBlock, Option.some.injEq] at hc
      subst hc
      rw [hk] at hk'
      injection hk' with hk'
      injection hk' with _ hk'
      exact hne hk'
theorem row_below {xs : List Value} (h : w.ownsRow B e z v n xs) (hb : Below w.heap.size w w') : w'.ownsRow B e z v n xs :=
  h.kept (row := none) ⟨hb.os, hb.tape, hb.output, hb.size, fun i hi _ => hb.block i hi⟩ (by cases hv : v.ownBlock <;> simp)
theorem row_block {g : Nat} {t : TypeId} {ds : List Value} (h : Blk w g t ds) {xs : List Value} (hr : w.ownsRow B e z v n xs) (hne : t ≠ e) : v.ownBlock ≠ some g := by
  rcases hr.2 with ⟨rfl, _⟩ | ⟨k, cap, cur, rfl, _, hk, _⟩
  · intro hc; cases hc
  · intro hc
    simp only [Value.ownBlock, Option.some.injEq] at hc
    subst hc
    unfold Blk at h
    rw [hk] at h
    injection h with h
    injection h with _ h
    exact hne h.symm

theorem grown_none {w w' : World} (h : w.grownBy w' none) : Below w.heap.size w w' := ⟨h.os, h.tape, h.output, h.size, fun j hj => h.block j hj (by simp)⟩

/-- append(nil, s...): a slice anew. -/
theorem wpList_append_all {ops : Array Oper} {rest : List Oper} {o : Oper} {a : Act} {Q : Exit → Act → World → Prop} (hgd : o.guard = none) (s x : Operand) (t : TypeId)
    (ho : o.op = .call { callee := .builtin .append, args := #[s, x], argTypes := #[t, t] })
    (B : Nat) (e : TypeId) (i : TypeInfo) (z : Value) (size bytes : Nat) (ht : P.underlying t = some (.slice e)) (hi : P.info? e = some i) (hz : i.zero = some z)
    (hsize : i.size = size) (hby : i.bytes = bytes) (hzs : z.cells.size = size) (hsz : 0 < size)
    (hs : a.eval s = .slice none 0 0) (v : Value) (n : Nat) (cs : Nat → List Value) (hx : a.eval x = v) (hv : SlC w v n size cs) (hcs : ∀ j, j < n → (cs j).length = size)
    (h1 : ∀ j, j < n → ∀ u ∈ cs j, u.oneCell' = true) (hb1 : n ≤ maxLen) (hbytes : n * bytes ≤ 140737488355328) (hB : B ≤ w.heap.size)
    (h : ∀ v' w', w'.ownsRow B e size v' n (flat cs n) → w.grownBy w' none → wpList P ops Q rest (a.put o.dst v') w') : wpList P ops Q (o :: rest) a w := by
  obtain ⟨ao, c, rfl, h2⟩ := hv
  have hown := World.ownsRow_nil w B e size
  cases ao with
  | none =>
    have hn0 : n = 0 := by
      rcases Nat.eq_zero_or_pos n with h0 | h0
      · exact h0
      · obtain ⟨b, o, h3, _⟩ := h2 h0; cases h3
    subst hn0
    refine wpList_plain hgd fun K hK => ?_
    have hrun : (Builtin.append_ #[t, t] o.type #[.slice none 0 0, .slice none 0 c]).run P w = .ok (.slice none 0 0) w := by
      simp [Builtin.append_, run_underlying ht, sizeOf, typeInfo, hi, Builtin.lenOf, Builtin.firstCells]
    unfold Oper.wp
    simp [execOp, ho, resolve, invoke, builtin, hs, hx, hrun, Result.andThen]
    exact hK _ _ (h _ _ hown ⟨rfl, rfl, rfl, Nat.le_refl _, fun _ _ _ => rfl⟩)
  | some ad =>
    refine wpList_append_own w hgd s x t ho B e i z size bytes ht hi hz hsize hby hzs hsz (.slice none 0 0) 0 [] hs hown ad n c (flat cs n) hx (flat_length n hcs) ?_ (flat_all n h1) (by omega) (by rw [Nat.zero_add]; exact hbytes) hB ?_
    · intro m u hm
      obtain ⟨j, i', hj, rfl, hi', hu⟩ := flat_at n hcs m u hm
      obtain ⟨b, o', h3, h4, h5⟩ := h2 (by omega)
      cases h3
      rw [Addr.add_mid, ← Nat.add_assoc]
      exact h5 j hj i' u hu
    · intro v' w' h6 h7 _
      rw [Nat.zero_add, List.nil_append] at h6
      exact h v' w' h6 h7
end
end Go.Proofs.Ytfnofolahhoggaa
