/- Which symbol a name is, which objects may be linked, as plain functions. -/
import Derived.Test.YtfnofolahhoggaaOM
namespace Go.Proofs.Ytfnofolahhoggaa.Rv
open Go.Proofs.Ytfnofolahhoggaa.Oj

def symsN (l : List Ob) (i : Nat) : List Sy := (l.getD i Ob.nought).syms
def symP (l : List Ob) (p : Nat × Nat) : Sy := (symsN l p.1).getD p.2 Sy.nought
def rowP (i j : Nat) : List (Nat × Nat) := (List.range j).map fun b => (i, b)
/-- All places of the objects ahead of the i-th. -/
def allB (l : List Ob) : Nat → List (Nat × Nat)
  | 0 => []
  | i + 1 => allB l i ++ rowP i (symsN l i).length
/-- All places ahead of one. -/
def pre (l : List Ob) (i j : Nat) : List (Nat × Nat) := allB l i ++ rowP i j
def allP (l : List Ob) : List (Nat × Nat) := allB l l.length

theorem rowP_next (i j : Nat) : rowP i (j + 1) = rowP i j ++ [(i, j)] := by unfold rowP; rw [List.range_succ, List.map_append]; rfl
theorem pre_zero (l : List Ob) (i : Nat) : pre l i 0 = allB l i := by unfold pre rowP; simp
theorem pre_next (l : List Ob) (i j : Nat) : pre l i (j + 1) = pre l i j ++ [(i, j)] := by unfold pre; rw [rowP_next, List.append_assoc]
theorem pre_row (l : List Ob) (i : Nat) : pre l i (symsN l i).length = allB l (i + 1) := rfl
theorem mem_row {i j : Nat} {q : Nat × Nat} (h : q ∈ rowP i j) : q.1 = i ∧ q.2 < j := by
  unfold rowP at h
  rw [List.mem_map] at h
  obtain ⟨b, h1, rfl⟩ := h
  exact ⟨rfl, List.mem_range.1 h1⟩
theorem mem_allB {l : List Ob} : ∀ {i : Nat} {q : Nat × Nat}, q ∈ allB l i → q.1 < i ∧ q.2 < (symsN l q.1).length
  | 0, q, h => by cases h
  | i + 1, q, h => by
    rw [allB, List.mem_append] at h
    rcases h with h | h
    · have := mem_allB h; exact ⟨by omega, this.2⟩
    · have := mem_row h; rw [this.1]; exact ⟨by omega, this.2⟩
theorem mem_pre {l : List Ob} {i j : Nat} {q : Nat × Nat} (h : q ∈ pre l i j) : q ≠ (i, j) := by
  unfold pre at h
  rw [List.mem_append] at h
  rintro rfl
  rcases h with h | h
  · have := mem_allB h; simp at this
  · have := mem_row h; simp at this
theorem allB_of {l : List Ob} : ∀ {n : Nat} {i j : Nat}, i < n → j < (symsN l i).length → (i, j) ∈ allB l n
  | 0, i, j, h, _ => absurd h (Nat.not_lt_zero i)
  | n + 1, i, j, h, hj => by
    rw [allB, List.mem_append]
    rcases Nat.lt_or_ge i n with h1 | h1
    · exact .inl (allB_of h1 hj)
    · obtain rfl : i = n := by omega
      right
      unfold rowP
      rw [List.mem_map]
      exact ⟨j, List.mem_range.2 hj, rfl⟩
theorem rowP_split {i : Nat} : ∀ {n j : Nat}, j < n → ∃ r, rowP i n = rowP i j ++ (i, j) :: r
  | 0, j, h => absurd h (Nat.not_lt_zero j)
  | n + 1, j, h => by
    rw [rowP_next]
    rcases Nat.lt_or_ge j n with h1 | h1
    · obtain ⟨r, hr⟩ := rowP_split (i := i) h1
      exact ⟨r ++ [(i, n)], by rw [hr]; simp⟩
    · obtain rfl : j = n := by omega
      exact ⟨[], rfl⟩
theorem allB_split {l : List Ob} {i j : Nat} (hj : j < (symsN l i).length) : ∀ {n : Nat}, i < n → ∃ r, allB l n = pre l i j ++ (i, j) :: r
  | 0, h => absurd h (Nat.not_lt_zero i)
  | n + 1, h => by
    rw [allB]
    rcases Nat.lt_or_ge i n with h1 | h1
    · obtain ⟨r, hr⟩ := allB_split hj h1
      exact ⟨r ++ rowP n (symsN l n).length, by rw [hr]; simp⟩
    · obtain rfl : i = n := by omega
      obtain ⟨r, hr⟩ := rowP_split (i := i) hj
      exact ⟨r, by rw [hr]; unfold pre; simp⟩

/-! the first symbol of a name that is bound so -/
def isB (l : List Ob) (nm : List UInt8) (b : Int) (p : Nat × Nat) : Bool := decide ((symP l p).name = nm) && decide ((symP l p).bind = b)
def fstB (l : List Ob) (ps : List (Nat × Nat)) (nm : List UInt8) (b : Int) : Option (Nat × Nat) := ps.find? (isB l nm b)
theorem fst_next (l : List Ob) (ps : List (Nat × Nat)) (p : Nat × Nat) (nm : List UInt8) (b : Int) : fstB l (ps ++ [p]) nm b = (fstB l ps nm b).or (if isB l nm b p = true then some p else none) := by
  unfold fstB
  rw [List.find?_append]
  congr 1
  by_cases h : isB l nm b p = true
  · rw [if_pos h, List.find?_cons_of_pos h]
  · rw [if_neg h, List.find?_cons_of_neg h]; rfl
theorem fst_hit {l : List Ob} {i j : Nat} {nm : List UInt8} {b : Int} (hi : i < l.length) (hj : j < (symsN l i).length) (hn : fstB l (pre l i j) nm b = none) (h : isB l nm b (i, j) = true) : fstB l (allP l) nm b = some (i, j) := by
  obtain ⟨r, hr⟩ := allB_split hj hi
  unfold allP
  rw [hr]
  unfold fstB at hn ⊢
  rw [List.find?_append, hn, List.find?_cons_of_pos h]
  rfl
theorem fst_miss {l : List Ob} {ps : List (Nat × Nat)} {p : Nat × Nat} {nm : List UInt8} {b : Int} (hn : fstB l ps nm b = none) (h : isB l nm b p = false) : fstB l (ps ++ [p]) nm b = none := by
  rw [fst_next, hn, h]; rfl
theorem fst_some {l : List Ob} {ps : List (Nat × Nat)} {nm : List UInt8} {b : Int} {p : Nat × Nat} (h : fstB l ps nm b = some p) : p ∈ ps ∧ (symP l p).name = nm ∧ (symP l p).bind = b := by
  have h1 := List.find?_some h
  have h2 := List.mem_of_find?_eq_some h
  unfold isB at h1
  simp only [Bool.and_eq_true, decide_eq_true_eq] at h1
  exact ⟨h2, h1⟩
theorem fst_none {l : List Ob} {ps : List (Nat × Nat)} {nm : List UInt8} {b : Int} (h : fstB l ps nm b = none) {p : Nat × Nat} (hp : p ∈ ps) : ¬ ((symP l p).name = nm ∧ (symP l p).bind = b) := by
  unfold fstB at h
  rw [List.find?_eq_none] at h
  have := h p hp
  unfold isB at this
  simpa using this

/-- The winner of a name. -/
def winB (l : List Ob) (ps : List (Nat × Nat)) (nm : List UInt8) : Option (Nat × Nat) := (fstB l ps nm 1).or (fstB l ps nm 2)
def winL (l : List Ob) (nm : List UInt8) : Option (Nat × Nat) := winB l (allP l) nm
/-- Where a name's winner stands, and whether it is strong. -/
def entB (l : List Ob) (ps : List (Nat × Nat)) (nm : List UInt8) : Option ((Nat × Nat) × Bool) := match fstB l ps nm 1 with | some p => some (p, true) | none => (fstB l ps nm 2).map fun p => (p, false)
theorem ent_win (l : List Ob) (ps : List (Nat × Nat)) (nm : List UInt8) : (entB l ps nm).map (·.1) = winB l ps nm := by
  unfold entB winB
  cases fstB l ps nm 1 with
  | some p => rfl
  | none => cases fstB l ps nm 2 <;> rfl
theorem ent_nil (l : List Ob) (nm : List UInt8) : entB l [] nm = none := rfl
section
variable {l : List Ob} {ps : List (Nat × Nat)} {p : Nat × Nat}
theorem isB_other {nm : List UInt8} {b : Int} (h : (symP l p).bind ≠ b) : isB l nm b p = false := by unfold isB; rw [decide_eq_false h, Bool.and_false]
theorem isB_name {nm : List UInt8} {b : Int} (h : (symP l p).name ≠ nm) : isB l nm b p = false := by unfold isB; rw [decide_eq_false h, Bool.false_and]
theorem isB_own {b : Int} (h : (symP l p).bind = b) : isB l (symP l p).name b p = true := by unfold isB; rw [decide_eq_true h, decide_eq_true rfl]; rfl
theorem ent_skip (h1 : (symP l p).bind ≠ 1) (h2 : (symP l p).bind ≠ 2) (nm : List UInt8) : entB l (ps ++ [p]) nm = entB l ps nm := by
  unfold entB
  rw [fst_next, fst_next, isB_other h1, isB_other h2]
  simp
theorem ent_strong (h1 : (symP l p).bind = 1) (hn : fstB l ps (symP l p).name 1 = none) (nm : List UInt8) : entB l (ps ++ [p]) nm = if nm = (symP l p).name then some (p, true) else entB l ps nm := by
  unfold entB
  rw [fst_next, fst_next, isB_other (b := 2) (by omega)]
  by_cases he : nm = (symP l p).name
  · rw [if_pos he, he, hn, isB_own h1]; rfl
  · rw [if_neg he, isB_name (fun e => he e.symm)]; simp
theorem ent_weak (h1 : (symP l p).bind = 2) (hn : entB l ps (symP l p).name = none) (nm : List UInt8) : entB l (ps ++ [p]) nm = if nm = (symP l p).name then some (p, false) else entB l ps nm := by
  have ha : fstB l ps (symP l p).name 1 = none ∧ fstB l ps (symP l p).name 2 = none := by
    unfold entB at hn
    cases h : fstB l ps (symP l p).name 1 with
    | some q => rw [h] at hn; cases hn
    | none =>
      rw [h] at hn
      refine ⟨rfl, ?_⟩
      cases h2 : fstB l ps (symP l p).name 2 with
      | some q => rw [h2] at hn; cases hn
      | none => rfl
  unfold entB
  rw [fst_next, fst_next, isB_other (b := 1) (by omega)]
  by_cases he : nm = (symP l p).name
  · rw [if_pos he, he, ha.1, ha.2, isB_own h1]; rfl
  · rw [if_neg he, isB_name (fun e => he e.symm)]; simp
theorem ent_keep (h1 : (symP l p).bind = 2) (hn : (entB l ps (symP l p).name).isSome = true) (nm : List UInt8) : entB l (ps ++ [p]) nm = entB l ps nm := by
  unfold entB
  rw [fst_next, fst_next, isB_other (b := 1) (by omega)]
  by_cases he : nm = (symP l p).name
  · subst he
    unfold entB at hn
    cases h : fstB l ps (symP l p).name 1 with
    | some q => rfl
    | none =>
      rw [h] at hn
      cases h2 : fstB l ps (symP l p).name 2 with
      | some q => simp
      | none => rw [h2] at hn; cases hn
  · rw [isB_name (fun e => he e.symm)]; simp
end

/-! two strong symbols of one name -/
def dupP (l : List Ob) (p : Nat × Nat) : Bool := decide ((symP l p).bind = 1) && (fstB l (pre l p.1 p.2) (symP l p).name 1).isSome
def dupL (l : List Ob) : Option (Nat × Nat) := (allP l).find? (dupP l)
def linkOk (l : List Ob) : Bool := decide (l.length ≤ 16) && allN l.length fun i => obOk (l.getD i Ob.nought)
/-- What Check answers. -/
def checkL (l : List Ob) : List UInt8 × Int := if linkOk l = true then (match dupL l with | some p => ((symP l p).name, 120) | none => ([], 0)) else ([], 2)
theorem dup_hit {l : List Ob} {i j : Nat} (hi : i < l.length) (hj : j < (symsN l i).length) (hn : ∀ p ∈ pre l i j, dupP l p = false) (h : dupP l (i, j) = true) : dupL l = some (i, j) := by
  obtain ⟨r, hr⟩ := allB_split hj hi
  unfold dupL allP
  rw [hr, List.find?_append, List.find?_cons_of_pos h]
  rw [List.find?_eq_none.2 (fun p hp => by rw [hn p hp]; simp)]
  rfl
theorem dup_none {l : List Ob} (hn : ∀ p ∈ allP l, dupP l p = false) : dupL l = none := by
  unfold dupL
  rw [List.find?_eq_none]
  exact fun p hp => by rw [hn p hp]; simp
theorem dup_next {l : List Ob} {i j : Nat} (hn : ∀ p ∈ pre l i j, dupP l p = false) (h : dupP l (i, j) = false) : ∀ p ∈ pre l i (j + 1), dupP l p = false := by
  intro p hp
  rw [pre_next, List.mem_append, List.mem_singleton] at hp
  rcases hp with hp | rfl
  · exact hn p hp
  · exact h
/-- As the document asks it: is it another one than the first strong one of its name? -/
theorem dup_first {l : List Ob} {i j : Nat} (hi : i < l.length) (hj : j < (symsN l i).length) (h1 : (symP l (i, j)).bind = 1) : dupP l (i, j) = decide ((fstB l (allP l) (symP l (i, j)).name 1).getD (0, 0) ≠ (i, j)) := by
  obtain ⟨r, hr⟩ := allB_split hj hi
  unfold dupP
  rw [decide_eq_true h1, Bool.true_and]
  cases hf : fstB l (pre l i j) (symP l (i, j)).name 1 with
  | none =>
    rw [fst_hit hi hj hf (isB_own h1)]
    simp
  | some q =>
    have hq : fstB l (allP l) (symP l (i, j)).name 1 = some q := by
      unfold allP
      rw [hr]
      unfold fstB at hf ⊢
      rw [List.find?_append, hf]
      rfl
    rw [hq]
    have h2 := mem_pre (fst_some hf).1
    simp [h2]

/-! which symbol a name is -/
def ownL (l : List Ob) (n : Nat) (nm : List UInt8) : Option Nat := (List.range (symsN l n).length).find? fun k => isB l nm 0 (n, k)
def findL (l : List Ob) (fr : Int) (nm : List UInt8) : Option (Nat × Nat) := if 0 ≤ fr then (match ownL l fr.toNat nm with | some k => some (fr.toNat, k) | none => winL l nm) else winL l nm
def outL (l : List Ob) (fr : Int) : Bool := decide (fr < -1) || decide ((l.length : Int) ≤ fr)
/-- What Find answers. -/
def fndL (l : List Ob) (fr : Int) (nm : List UInt8) : (Nat × Nat) × Int :=
  if (checkL l).2 ≠ 0 then ((0, 0), (checkL l).2) else if outL l fr = true then ((0, 0), 2) else match findL l fr nm with | none => ((0, 0), 121) | some p => (p, 0)
def hasL (l : List Ob) (a b : Int) : Bool := decide (0 ≤ a ∧ a < l.length ∧ 0 ≤ b ∧ b < (symsN l a.toNat).length)
/-- The names' symbols of k relocations, as long as there is one. -/
def relN (l : List Ob) (a : Int) (rs : List Rl) (k : Nat) : Option (Nat × Nat) := findL l a (rs.getD k Rl.nought).name
def badL (l : List Ob) (a : Int) (rs : List Rl) : Option Nat := (List.range rs.length).find? fun k => (relN l a rs k).isNone
def refN (l : List Ob) (a : Int) (rs : List Rl) (k : Nat) : List (Nat × Nat) := (List.range k).map fun j => (relN l a rs j).getD (0, 0)
/-- What Refs answers. -/
def refsL (l : List Ob) (a b : Int) : List (Nat × Nat) × List UInt8 × Int :=
  if (checkL l).2 ≠ 0 then ([], checkL l) else if hasL l a b = true then
    (match badL l a (symP l (a.toNat, b.toNat)).rels with | some k => ([], ((symP l (a.toNat, b.toNat)).rels.getD k Rl.nought).name, 121) | none => (refN l a (symP l (a.toNat, b.toNat)).rels (symP l (a.toNat, b.toNat)).rels.length, [], 0)) else ([], [], 2)
def isWin (l : List Ob) (p : Nat × Nat) : Bool := decide ((symP l p).bind = 0) || decide (winL l (symP l p).name = some p)
/-- What Winners answers. -/
def winsL (l : List Ob) : List (Nat × Nat) × Int := if (checkL l).2 ≠ 0 then ([], (checkL l).2) else ((allP l).filter (isWin l), 0)
theorem refN_next (l : List Ob) (a : Int) (rs : List Rl) (k : Nat) : refN l a rs (k + 1) = refN l a rs k ++ [(relN l a rs k).getD (0, 0)] := by unfold refN; rw [List.range_succ, List.map_append]; rfl
theorem bad_hit {l : List Ob} {a : Int} {rs : List Rl} {k : Nat} (hk : k < rs.length) (h : relN l a rs k = none) (hj : ∀ j, j < k → (relN l a rs j).isNone = false) : badL l a rs = some k := by
  unfold badL
  rw [List.find?_range_eq_some]
  exact ⟨by rw [h]; rfl, by simpa using hk, fun j h2 => by rw [hj j h2]; rfl⟩
theorem bad_none {l : List Ob} {a : Int} {rs : List Rl} (hj : ∀ j, j < rs.length → (relN l a rs j).isNone = false) : badL l a rs = none := by
  unfold badL
  rw [List.find?_range_eq_none]
  exact fun j h2 => by rw [hj j h2]; rfl
theorem own_hit {l : List Ob} {n k : Nat} {nm : List UInt8} (hk : k < (symsN l n).length) (h : isB l nm 0 (n, k) = true) (hj : ∀ j, j < k → isB l nm 0 (n, j) = false) : ownL l n nm = some k := by
  unfold ownL
  rw [List.find?_range_eq_some]
  exact ⟨h, by simpa using hk, fun j h2 => by rw [hj j h2]; rfl⟩
theorem own_none {l : List Ob} {n : Nat} {nm : List UInt8} (hj : ∀ j, j < (symsN l n).length → isB l nm 0 (n, j) = false) : ownL l n nm = none := by
  unfold ownL
  rw [List.find?_range_eq_none]
  exact fun j h2 => by rw [hj j h2]; rfl
theorem own_some {l : List Ob} {n k : Nat} {nm : List UInt8} (h : ownL l n nm = some k) : k < (symsN l n).length ∧ (symP l (n, k)).name = nm ∧ (symP l (n, k)).bind = 0 := by
  unfold ownL at h
  rw [List.find?_range_eq_some] at h
  obtain ⟨h1, h2, h3⟩ := h
  unfold isB at h1
  simp only [Bool.and_eq_true, decide_eq_true_eq] at h1
  exact ⟨by simpa using h2, h1⟩
theorem own_no {l : List Ob} {n : Nat} {nm : List UInt8} (h : ownL l n nm = none) {k : Nat} (hk : k < (symsN l n).length) : ¬ ((symP l (n, k)).name = nm ∧ (symP l (n, k)).bind = 0) := by
  unfold ownL at h
  rw [List.find?_range_eq_none] at h
  have := h k hk
  unfold isB at this
  rintro ⟨h1, h2⟩
  rw [decide_eq_true h1, decide_eq_true h2] at this
  exact absurd this (by decide)
theorem win_some {l : List Ob} {nm : List UInt8} {p : Nat × Nat} (h : winL l nm = some p) : p ∈ allP l ∧ (symP l p).name = nm ∧ ((symP l p).bind = 1 ∨ (fstB l (allP l) nm 1 = none ∧ (symP l p).bind = 2)) := by
  unfold winL winB at h
  cases h1 : fstB l (allP l) nm 1 with
  | some q =>
    rw [h1] at h
    have h := Option.some.inj h
    subst h
    have := fst_some h1
    exact ⟨this.1, this.2.1, .inl this.2.2⟩
  | none =>
    rw [h1, Option.none_or] at h
    have := fst_some h
    exact ⟨this.1, this.2.1, .inr ⟨rfl, this.2.2⟩⟩
/-- A symbol that is not local has a winner of its name. -/
theorem win_of {l : List Ob} {p : Nat × Nat} (hp : p ∈ allP l) (h : (symP l p).bind = 1 ∨ (symP l p).bind = 2) : (winL l (symP l p).name).isSome = true := by
  unfold winL winB
  cases h1 : fstB l (allP l) (symP l p).name 1 with
  | some q => rfl
  | none =>
    rw [Option.none_or]
    cases h2 : fstB l (allP l) (symP l p).name 2 with
    | some q => rfl
    | none =>
      exfalso
      rcases h with h | h
      · exact fst_none h1 hp ⟨rfl, h⟩
      · exact fst_none h2 hp ⟨rfl, h⟩
theorem find_mem {l : List Ob} {fr : Int} {nm : List UInt8} {p : Nat × Nat} (hfr : fr < l.length) (h : findL l fr nm = some p) : p.1 < l.length ∧ p.2 < (symsN l p.1).length := by
  unfold findL at h
  split at h
  · split at h
    · rename_i k hk
      cases h
      exact ⟨by simp only; omega, (own_some hk).1⟩
    · have := mem_allB (win_some h).1
      exact this
  · exact mem_allB (win_some h).1
theorem filter_next (l : List Ob) (i j : Nat) : (pre l i (j + 1)).filter (isWin l) = (pre l i j).filter (isWin l) ++ (if isWin l (i, j) = true then [(i, j)] else []) := by
  rw [pre_next, List.filter_append]
  congr 1
  by_cases h : isWin l (i, j) = true
  · rw [if_pos h, List.filter_cons_of_pos h]; rfl
  · rw [if_neg h, List.filter_cons_of_neg h]; rfl
end Go.Proofs.Ytfnofolahhoggaa.Rv
