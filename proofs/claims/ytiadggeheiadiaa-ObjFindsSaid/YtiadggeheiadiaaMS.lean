/- Lists of texts that rise: insertion, and sorting with equal neighbours taken away, come to the same. -/
import Derived.Lib.SlicesCompact
import Derived.Test.YtiadggeheiadiaaOM
namespace Go.Proofs.Ytiadggeheiadiaa.Oj
open Go Go.Lib

/-- A text put into a list that rises, once. -/
def put : List (List UInt8) → List UInt8 → List (List UInt8)
  | [], s => [s]
  | x :: l, s => if x < s then x :: put l s else if x = s then x :: l else s :: x :: l
def putAll (xs : List (List UInt8)) : List (List UInt8) := xs.foldl put []
def leT (x y : List UInt8) : Bool := decide (x ≤ y)
/-- A list that rises. -/
def Rise (l : List (List UInt8)) : Prop := l.Pairwise (· < ·)

theorem put_at : ∀ (l : List (List UInt8)) (s : List UInt8) (k : Nat), k ≤ l.length → (∀ j, j < k → l.getD j [] < s) → (k < l.length → ¬ l.getD k [] < s) →
    put l s = if k < l.length ∧ l.getD k [] = s then l else l.take k ++ s :: l.drop k
  | [], s, k, hk, _, _ => by
    have : k = 0 := by simpa using hk
    subst this
    simp [put]
  | x :: l, s, 0, _, _, h2 => by
    have hx : ¬ x < s := h2 (by simp)
    unfold put
    rw [if_neg hx]
    by_cases he : x = s
    · rw [if_pos he, if_pos ⟨by simp, he⟩]
    · rw [if_neg he, if_neg (fun h => he h.2)]
      rfl
  | x :: l, s, k + 1, hk, h1, h2 => by
    have hx : x < s := h1 0 (by omega)
    have ih := put_at l s k (by simpa using hk) (fun j hj => h1 (j + 1) (by omega)) (fun h => h2 (by simpa using h))
    unfold put
    rw [if_pos hx, ih]
    by_cases he : k < l.length ∧ l.getD k [] = s
    · rw [if_pos he, if_pos ⟨by simpa using he.1, he.2⟩]
    · rw [if_neg he, if_neg (fun h => he ⟨by simpa using h.1, h.2⟩)]
      rfl
theorem mem_put (s x : List UInt8) : ∀ l : List (List UInt8), x ∈ put l s ↔ x = s ∨ x ∈ l
  | [] => by simp [put]
  | y :: l => by
    unfold put
    split
    · rw [List.mem_cons, mem_put s x l, List.mem_cons]
      constructor
      · rintro (h | h | h)
        · exact .inr (.inl h)
        · exact .inl h
        · exact .inr (.inr h)
      · rintro (h | h | h)
        · exact .inr (.inl h)
        · exact .inl h
        · exact .inr (.inr h)
    · split
      · rename_i h
        subst h
        constructor
        · intro h; exact .inr h
        · rintro (h | h)
          · rw [h]; simp
          · exact h
      · rw [List.mem_cons]
theorem rise_put (s : List UInt8) : ∀ l : List (List UInt8), Rise l → Rise (put l s)
  | [], _ => by simp [put, Rise]
  | y :: l, h => by
    have h' := List.pairwise_cons.1 h
    unfold put
    split
    · rename_i hy
      refine List.pairwise_cons.2 ⟨fun a ha => ?_, rise_put s l h'.2⟩
      rcases (mem_put s a l).1 ha with rfl | ha
      · exact hy
      · exact h'.1 a ha
    · rename_i hy
      split
      · exact h
      · rename_i he
        have hs : s < y := by
          apply Decidable.byContradiction
          intro hn
          exact he (List.le_antisymm hn hy)
        refine List.pairwise_cons.2 ⟨fun a ha => ?_, h⟩
        rcases List.mem_cons.1 ha with rfl | ha
        · exact hs
        · exact List.lt_trans hs (h'.1 a ha)
theorem foldl_rise : ∀ (xs l : List (List UInt8)), Rise l → Rise (xs.foldl put l)
  | [], _, h => h
  | x :: xs, l, h => foldl_rise xs (put l x) (rise_put x l h)
theorem mem_foldl (x : List UInt8) : ∀ (xs l : List (List UInt8)), x ∈ xs.foldl put l ↔ x ∈ xs ∨ x ∈ l
  | [], l => by simp
  | y :: xs, l => by
    rw [List.foldl_cons, mem_foldl x xs (put l y), mem_put, List.mem_cons]
    constructor
    · rintro (h | h | h)
      · exact .inl (.inr h)
      · exact .inl (.inl h)
      · exact .inr h
    · rintro ((h | h) | h)
      · exact .inr (.inl h)
      · exact .inl h
      · exact .inr (.inr h)
theorem rise_nodup {a : List (List UInt8)} (h : Rise a) : a.Nodup := by
  unfold List.Nodup
  refine List.Pairwise.imp ?_ h
  intro x y hxy he
  subst he
  exact List.lt_irrefl _ hxy
theorem rise_eq {a b : List (List UInt8)} (ha : Rise a) (hb : Rise b) (h : ∀ x, x ∈ a ↔ x ∈ b) : a = b := by
  have na : a.Nodup := rise_nodup ha
  have nb : b.Nodup := rise_nodup hb
  have hp : a.Perm b := (List.perm_ext_iff_of_nodup na nb).2 h
  exact List.Perm.eq_of_pairwise (le := (· < ·)) (fun x y _ _ h1 h2 => absurd (List.lt_trans h1 h2) (List.lt_irrefl _)) ha hb hp

theorem compact_rise (d : Array (List UInt8)) (hs : ∀ i j, i < j → j < d.size → d[i]! ≤ d[j]!) : ∀ m, m ≤ d.size → Rise (compactUpTo d m) ∧ ∀ x, x ∈ compactUpTo d m ↔ ∃ j, j < m ∧ d[j]! = x
  | 0, _ => by simp [compactUpTo, Rise]
  | m + 1, hm => by
    obtain ⟨ih1, ih2⟩ := compact_rise d hs m (by omega)
    rw [compactUpTo_succ]
    by_cases hk : keeps d m = true
    · rw [if_pos hk]
      have hlt : ∀ x ∈ compactUpTo d m, x < d[m]! := by
        intro x hx
        obtain ⟨j, hj, rfl⟩ := (ih2 x).1 hx
        unfold keeps at hk
        have hk := of_decide_eq_true hk
        rcases hk with hk | hk
        · omega
        · have h1 : d[m - 1]! ≤ d[m]! := hs (m - 1) m (by omega) (by omega)
          have h2 : d[m - 1]! < d[m]! := by
            apply Decidable.byContradiction
            intro hn
            exact hk (List.le_antisymm hn h1)
          by_cases hj2 : j = m - 1
          · rw [hj2]; exact h2
          · have h3 : d[j]! ≤ d[m - 1]! := hs j (m - 1) (by omega) (by omega)
            exact List.lt_of_le_of_lt h3 h2
      refine ⟨?_, fun x => ?_⟩
      · refine List.pairwise_append.2 ⟨ih1, by simp, fun a ha b hb => ?_⟩
        rw [List.mem_singleton] at hb
        rw [hb]
        exact hlt a ha
      · rw [List.mem_append, ih2, List.mem_singleton]
        constructor
        · rintro (⟨j, hj, hx⟩ | hx)
          · exact ⟨j, by omega, hx⟩
          · exact ⟨m, by omega, hx.symm⟩
        · rintro ⟨j, hj, hx⟩
          by_cases hj2 : j = m
          · subst hj2; exact .inr hx.symm
          · exact .inl ⟨j, by omega, hx⟩
    · rw [if_neg hk, List.append_nil]
      refine ⟨ih1, fun x => ?_⟩
      rw [ih2]
      constructor
      · rintro ⟨j, hj, hx⟩
        exact ⟨j, by omega, hx⟩
      · rintro ⟨j, hj, hx⟩
        by_cases hj2 : j = m
        · subst hj2
          unfold keeps at hk
          have hk := of_decide_eq_false (Bool.eq_false_iff.2 hk)
          have h0 : j ≠ 0 := fun h => hk (.inl h)
          have h1 : d[j]! = d[j - 1]! := Decidable.byContradiction fun h => hk (.inr h)
          exact ⟨j - 1, by omega, by rw [← h1]; exact hx⟩
        · exact ⟨j, by omega, hx⟩
theorem sorted_rise (xs : List (List UInt8)) : Rise (compact (xs.mergeSort leT)) ∧ ∀ x, x ∈ compact (xs.mergeSort leT) ↔ x ∈ xs := by
  have tr : ∀ a b c : List UInt8, leT a b = true → leT b c = true → leT a c = true := fun a b c h1 h2 => by simp only [leT, decide_eq_true_eq] at *; exact List.le_trans h1 h2
  have to : ∀ a b : List UInt8, (leT a b || leT b a) = true := fun a b => by simp only [leT, Bool.or_eq_true, decide_eq_true_eq]; exact List.le_total a b
  have hp := List.pairwise_mergeSort tr to xs
  have hm := List.mergeSort_perm xs leT
  obtain ⟨h1, h2⟩ := compact_rise (xs.mergeSort leT).toArray (fun i j hij hj => by
    have hj' : j < (xs.mergeSort leT).length := by simpa using hj
    have := List.pairwise_iff_getElem.1 hp i j (by omega) hj' hij
    rw [getElem!_pos _ i (by simpa using (show i < (xs.mergeSort leT).length by omega)), getElem!_pos _ j (by simpa using hj')]
    simpa [leT] using this) (xs.mergeSort leT).length (by simp)
  refine ⟨h1, fun x => ?_⟩
  unfold compact
  rw [h2, ← hm.mem_iff, List.mem_iff_getElem]
  constructor
  · rintro ⟨j, hj, hx⟩
    refine ⟨j, hj, ?_⟩
    rw [getElem!_pos _ j (by simpa using hj)] at hx
    simpa using hx
  · rintro ⟨j, hj, hx⟩
    refine ⟨j, hj, ?_⟩
    rw [getElem!_pos _ j (by simpa using hj)]
    simpa using hx
/-- Sorting, and taking equal neighbours away, comes to what insertion comes to. -/
theorem sorted_put (xs : List (List UInt8)) : compact (xs.mergeSort leT) = putAll xs := by
  obtain ⟨h1, h2⟩ := sorted_rise xs
  exact rise_eq h1 (foldl_rise xs [] List.Pairwise.nil) fun x => by rw [h2, putAll, mem_foldl]; simp
/-- Of texts no two of which are the same all are left. -/
theorem putAll_length (xs : List (List UInt8)) (h : xs.Nodup) : (putAll xs).length = xs.length := by
  have h1 := foldl_rise xs [] List.Pairwise.nil
  have hn : (putAll xs).Nodup := rise_nodup h1
  have hp : (putAll xs).Perm xs := (List.perm_ext_iff_of_nodup hn h).2 fun x => by rw [putAll, mem_foldl]; simp
  exact hp.length_eq

/-- The names of an object that may be. -/
def namesO (o : Ob) : List (List UInt8) := if obOk o = true then o.syms.map (·.name) else []
def namesL (l : List Ob) : List (List UInt8) := (l.map namesO).flatten
theorem namesL_snoc (l : List Ob) (k : Nat) (h : k < l.length) : namesL (l.take (k + 1)) = namesL (l.take k) ++ namesO (l.getD k Ob.nought) := by
  unfold namesL
  rw [List.take_succ_eq_append_getElem h, List.map_append, List.flatten_append]
  simp [List.getD, h]
theorem namesO_length (o : Ob) : (namesO o).length ≤ 64 := by
  unfold namesO
  split
  · rename_i h
    unfold obOk at h
    simp only [Bool.and_eq_true, decide_eq_true_eq] at h
    rw [List.length_map]
    exact h.1.2
  · simp
theorem namesL_length : ∀ l : List Ob, (namesL l).length ≤ l.length * 64
  | [] => by simp [namesL]
  | o :: l => by
    have ih := namesL_length l
    have h := namesO_length o
    have e : namesL (o :: l) = namesO o ++ namesL l := by simp [namesL]
    rw [e, List.length_append, List.length_cons, Nat.succ_mul]
    omega
/-- In an object that may be no two symbols have the same name. -/
theorem names_nodup {o : Ob} (h : obOk o = true) : (o.syms.map (·.name)).Nodup := by
  unfold obOk at h
  simp only [Bool.and_eq_true] at h
  have hs := h.2
  unfold symsOk at hs
  refine List.pairwise_iff_getElem.2 fun i j hi hj hij => ?_
  rw [List.length_map] at hi hj
  have h2 := allN_at hs hj
  simp only [Bool.and_eq_true] at h2
  have h3 := h2.2
  unfold apartOk at h3
  have h4 := of_decide_eq_true (allN_at h3 hij)
  rw [List.getElem_map, List.getElem_map]
  simpa [List.getD, hi, hj] using h4
end Go.Proofs.Ytiadggeheiadiaa.Oj
