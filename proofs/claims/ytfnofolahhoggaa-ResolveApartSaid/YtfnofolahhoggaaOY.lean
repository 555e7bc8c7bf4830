/- Objects that came in, opened: what lies under them, and that it fits. -/
import Derived.Test.YtfnofolahhoggaaOA
import Derived.Deep.Slices
import Derived.Deep.MidRow
import Derived.SizedLaws
import Derived.ChangeArms
import Derived.OpenShut
import Derived.WalkArith
set_option linter.unusedVariables false
namespace Go.Proofs.Ytfnofolahhoggaa
open Go Go.ChangeShapes Go.WideShapes Go.RowKit Oj

/-- All that a reading holds is within the reach. -/
def Sm {H : Type} (P : Program) (t : TypeId) (d : DataW H) : Prop := ∀ m ∈ d.weights P t, m ≤ reachBytes
section
variable {H : Type} {P : Program}
theorem sm_each {ts : List TypeId} {ds : List (DataW H)} (h : (DataW.weightsEach P ts ds).all (· ≤ reachBytes) = true) {j : Nat} {t : TypeId} {d : DataW H} (ht : ts[j]? = some t) (hd : ds[j]? = some d) : Sm P t d := by
  intro m hm
  have := List.all_eq_true.1 h _ (DataW.weights_mem_each ht hd m hm)
  simpa using this
theorem sm_field {t ft : TypeId} {fs : Array Field} {parts : List (DataW H)} (hu : P.underlying t = some (.struct fs)) (h : Sm P t (.agg parts)) {i : Nat} {d : DataW H} (hf : (fs.toList.map (·.type))[i]? = some ft) (hd : parts[i]? = some d) : Sm P ft d := by
  intro m hm
  refine h m ?_
  simp only [DataW.weights, hu]
  exact DataW.weights_mem_each hf hd m hm
theorem mem_weightsAll {e : TypeId} : ∀ {l : List (DataW H)} {d : DataW H}, d ∈ l → ∀ m ∈ d.weights P e, m ∈ DataW.weightsAll P e l
  | d0 :: r, d, hd, m, hm => by
    simp only [DataW.weightsAll, List.mem_append]
    rcases List.mem_cons.1 hd with h | h
    · subst h; exact .inl hm
    · exact .inr (mem_weightsAll h m hm)
theorem sm_slice {t e : TypeId} {elems spare : List (DataW H)} (hu : P.underlying t = some (.slice e)) (h : Sm P t (.slice elems spare)) : (elems.length + spare.length) * P.bytesOf e ≤ reachBytes ∧ ∀ d ∈ elems, Sm P e d := by
  refine ⟨h _ ?_, fun d hd m hm => h m ?_⟩
  · simp only [DataW.weights, hu, List.mem_cons, true_or]
  · simp only [DataW.weights, hu, List.mem_cons, List.mem_append]
    exact .inr (.inl (mem_weightsAll hd m hm))
theorem sm_str {t : TypeId} {b : List UInt8} (h : Sm P t (.lit (.string b) : DataW H)) : b.length ≤ reachBytes := h _ (by simp [DataW.weights])
theorem reach_le2 : reachBytes ≤ 140737488355328 := by decide

theorem SlC.congr {w : World} {v : Value} {n z : Nat} {cs ds : Nat → List Value} (h : SlC w v n z cs) (he : ∀ j, j < n → cs j = ds j) : SlC w v n z ds := by
  obtain ⟨a, c, rfl, h2⟩ := h
  refine ⟨a, c, rfl, fun hn => ?_⟩
  obtain ⟨b, o, h3, h4, h5⟩ := h2 hn
  exact ⟨b, o, h3, h4, fun j hj => by rw [← he j hj]; exact h5 j hj⟩

variable {enc : TypeId × Value → H} {W : World} {spare : Nat → Bool} {held : Bool}
/-- A slice that came in, each of whose elements reads as something. -/
theorem open_sl {α : Type} (dflt : α) {t e : TypeId} {z bytes : Nat} (ht : P.underlying t = some (.slice e)) (hz : P.cellsOf e = z) (hz0 : 0 < z) (hb : P.bytesOf e = bytes) (Q : α → List Value → Prop)
    (hQ : ∀ m cs x, DataW.trod enc P W 0 spare held m e cs = some x → Sm P e x.1 → ∃ a, Q a cs)
    {fuel : Nat} {cs : List Value} {x : DataW H × List MemPlace} (h : DataW.trod enc P W 0 spare held fuel t cs = some x) (hs : Sm P t x.1) :
    ∃ (v : Value) (n : Nat) (X : Nat → α) (CS : Nat → List Value), cs = [v] ∧ SlC W v n z CS ∧ n * bytes ≤ reachBytes ∧ ∀ j, j < n → Q (X j) (CS j) := by
  rcases Go.Deep.open_slice ht h with ⟨hcs, _⟩ | ⟨a, len, cap, m, n', D, Pl, hcs, _, hl, hmx, hmm, hx, hcell⟩
  · exact ⟨.slice none 0 0, 0, fun _ => dflt, fun _ => [], hcs, ⟨none, 0, rfl, fun h => absurd h (Nat.lt_irrefl 0)⟩, by simp, fun j hj => absurd hj (Nat.not_lt_zero j)⟩
  · rw [hz] at hcell
    rw [hx] at hs
    obtain ⟨h1, h2⟩ := sm_slice ht hs
    have hle : len ≤ m := by rw [hmm]; split <;> omega
    have hel : ∀ i, ∃ y : α × List Value, i < len → W.cells? 0 (a.add (i * z)) z = some y.2 ∧ Q y.1 y.2 := by
      intro i
      by_cases hi : i < len
      · obtain ⟨cs', h3, h4⟩ := hcell i (by omega)
        obtain ⟨y, hy⟩ := hQ _ _ _ h4 (h2 _ (List.mem_map.2 ⟨i, List.mem_range.2 hi, rfl⟩))
        exact ⟨(y, cs'), fun _ => ⟨h3, hy⟩⟩
      · exact ⟨(dflt, []), fun h => absurd h hi⟩
    obtain ⟨X, hX⟩ := Classical.axiomOfChoice hel
    refine ⟨.slice (some a) len cap, len, fun i => (X i).1, fun i => (X i).2, hcs, ⟨_, _, rfl, fun hn => ?_⟩, ?_, fun j hj => (hX j hj).2⟩
    · obtain ⟨b, o, spot⟩ := a
      obtain ⟨_, hl0, hj0⟩ := World.cells?_some (hX 0 hn).1
      have c00 := hj0 0 hz0
      rw [List.getElem?_eq_getElem (by omega)] at c00
      have hspot : spot = none := by simpa [Addr.add] using World.cell?_spot c00
      subst hspot
      refine ⟨b, o, rfl, ?_, fun j hj i u hu => ?_⟩
      · rcases Nat.lt_or_ge b W.heap.size with h | h
        · exact h
        · rw [Addr.add_mid, Addr.add_mid] at c00
          simp [World.cell?, Array.getElem?_eq_none h] at c00
      · obtain ⟨_, hlj, hjj⟩ := World.cells?_some (hX j hj).1
        have hi : i < z := by rw [← hlj]; exact (List.getElem?_eq_some_iff.1 hu).1
        have := hjj i hi
        rw [Addr.add_mid, Addr.add_mid] at this
        rw [this]
        exact hu
    · have h3 : len * bytes ≤ (((List.range len).map D).length + ((List.range (m - len)).map fun j => D (len + j)).length) * P.bytesOf e := by
        rw [hb]
        exact Nat.mul_le_mul_right _ (by simp)
      exact Nat.le_trans h3 h1
end
end Go.Proofs.Ytfnofolahhoggaa
