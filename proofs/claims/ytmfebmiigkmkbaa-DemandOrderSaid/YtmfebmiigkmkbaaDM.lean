/- Manifests as plain data: which may be, what notes and manifests come to when put together, what covers what. Plain mathematics: no program is named. -/
import Derived.Test.YtmfebmiigkmkbaaOM
namespace Go.Proofs.Ytmfebmiigkmkbaa.Dm
open Oj

structure Xt where
  id : Int
  bl : Int
def Xt.nought : Xt := ⟨0, 0⟩
structure Mf where
  pages : Int
  ext : List Xt
  ports : List Int
  con : Bool
def Mf.nought : Mf := ⟨0, [], [], false⟩
theorem Xt.eq_iff (a b : Xt) : (a.id = b.id ∧ a.bl = b.bl) ↔ a = b := by
  obtain ⟨a1, a2⟩ := a
  obtain ⟨b1, b2⟩ := b
  simp
theorem Mf.eq_iff (a b : Mf) : (a.pages = b.pages ∧ a.ext.map (fun x => (x.id, x.bl)) = b.ext.map (fun x => (x.id, x.bl)) ∧ a.ports = b.ports ∧ a.con = b.con) ↔ a = b := by
  obtain ⟨a1, a2, a3, a4⟩ := a
  obtain ⟨b1, b2, b3, b4⟩ := b
  simp only [Mf.mk.injEq]
  refine ⟨fun ⟨h1, h2, h3, h4⟩ => ⟨h1, ?_, h3, h4⟩, fun ⟨h1, h2, h3, h4⟩ => ⟨h1, by rw [h2], h3, h4⟩⟩
  refine List.map_inj_right (f := fun x : Xt => (x.id, x.bl)) ?_ |>.1 h2
  intro x y h
  simp only [Prod.mk.injEq] at h
  exact (Xt.eq_iff x y).1 h
instance : DecidableEq Xt := fun a b => decidable_of_iff _ (Xt.eq_iff a b)
instance : DecidableEq Mf := fun a b => decidable_of_iff _ (Mf.eq_iff a b)

/-! which may be -/
def xtAt (l : List Xt) (k : Nat) : Bool := decide ((l.getD k Xt.nought).id < 16 ∧ 1 ≤ (l.getD k Xt.nought).bl ∧ (l.getD k Xt.nought).bl ≤ 1024 ∧ (0 < k → (l.getD (k - 1) Xt.nought).id < (l.getD k Xt.nought).id))
def extOk (l : List Xt) : Bool := allN l.length (xtAt l)
def ptAt (l : List Int) (k : Nat) : Bool := decide (l.getD k 0 ≠ 0 ∧ (0 < k → l.getD (k - 1) 0 < l.getD k 0))
def ptsOk (l : List Int) : Bool := allN l.length (ptAt l)
def mfOk (m : Mf) : Bool := decide (m.pages ≤ 1024) && extOk m.ext && (ptsOk m.ports && decide (m.ports.length ≤ 16))

/-- Rising by a key. -/
def Up {α : Type} (f : α → Int) (l : List α) : Prop := l.Pairwise fun a b => f a < f b
theorem up_of_steps {α : Type} (f : α → Int) (d : α) : ∀ l : List α, (∀ k, k + 1 < l.length → f (l.getD k d) < f (l.getD (k + 1) d)) → Up f l
  | [], _ => List.Pairwise.nil
  | [a], _ => by simp [Up]
  | a :: b :: r, h => by
    have h1 : Up f (b :: r) := up_of_steps f d (b :: r) fun k hk => by
      have := h (k + 1) (by simp only [List.length_cons] at hk ⊢; omega)
      simpa using this
    have h2 : f a < f b := by simpa using h 0 (by simp)
    refine List.Pairwise.cons ?_ h1
    intro x hx
    rcases List.mem_cons.1 hx with rfl | hx
    · exact h2
    · have := List.rel_of_pairwise_cons h1 hx
      omega
theorem up_at {α : Type} {f : α → Int} (d : α) {l : List α} (h : Up f l) {i j : Nat} (hij : i < j) (hj : j < l.length) : f (l.getD i d) < f (l.getD j d) := by
  have hi : i < l.length := by omega
  rw [List.getD_eq_getElem?_getD, List.getD_eq_getElem?_getD, List.getElem?_eq_getElem hi, List.getElem?_eq_getElem hj]
  exact List.pairwise_iff_getElem.1 h i j hi hj hij
theorem mem_at {α : Type} (d : α) {l : List α} {x : α} : x ∈ l ↔ ∃ k, k < l.length ∧ l.getD k d = x := by
  constructor
  · intro h
    obtain ⟨k, hk, rfl⟩ := List.getElem_of_mem h
    exact ⟨k, hk, by rw [List.getD_eq_getElem?_getD, List.getElem?_eq_getElem hk]; rfl⟩
  · rintro ⟨k, hk, rfl⟩
    rw [List.getD_eq_getElem?_getD, List.getElem?_eq_getElem hk]
    exact List.getElem_mem hk
/-- Two lists that rise and have the same elements are the same. -/
theorem up_ext {α : Type} {f : α → Int} : ∀ {l m : List α}, Up f l → Up f m → (∀ x, x ∈ l ↔ x ∈ m) → l = m
  | [], [], _, _, _ => rfl
  | [], b :: s, _, _, h => absurd ((h b).2 (List.mem_cons_self ..)) (by simp)
  | a :: r, [], _, _, h => absurd ((h a).1 (List.mem_cons_self ..)) (by simp)
  | a :: r, b :: s, hl, hm, h => by
    have e : a = b := by
      rcases List.mem_cons.1 ((h a).1 (List.mem_cons_self ..)) with h1 | h1
      · exact h1
      · rcases List.mem_cons.1 ((h b).2 (List.mem_cons_self ..)) with h2 | h2
        · exact h2.symm
        · have := List.rel_of_pairwise_cons hl h2
          have := List.rel_of_pairwise_cons hm h1
          omega
    subst e
    congr 1
    refine up_ext (List.Pairwise.of_cons hl) (List.Pairwise.of_cons hm) fun x => ⟨fun hx => ?_, fun hx => ?_⟩
    · rcases List.mem_cons.1 ((h x).1 (List.mem_cons_of_mem _ hx)) with h1 | h1
      · subst h1
        have := List.rel_of_pairwise_cons hl hx
        omega
      · exact h1
    · rcases List.mem_cons.1 ((h x).2 (List.mem_cons_of_mem _ hx)) with h1 | h1
      · subst h1
        have := List.rel_of_pairwise_cons hm hx
        omega
      · exact h1
def XOk (x : Xt) : Prop := x.id < 16 ∧ 1 ≤ x.bl ∧ x.bl ≤ 1024
theorem ext_up {l : List Xt} (h : extOk l = true) : Up Xt.id l ∧ ∀ x ∈ l, XOk x := by
  have h1 : ∀ k, k < l.length → _ := fun k hk => of_decide_eq_true (allN_at h hk)
  refine ⟨up_of_steps _ Xt.nought l fun k hk => (h1 (k + 1) hk).2.2.2 (by omega), fun x hx => ?_⟩
  obtain ⟨k, hk, rfl⟩ := (mem_at Xt.nought).1 hx
  exact ⟨(h1 k hk).1, (h1 k hk).2.1, (h1 k hk).2.2.1⟩
theorem ext_of_up {l : List Xt} (h : Up Xt.id l) (h2 : ∀ x ∈ l, XOk x) : extOk l = true := by
  refine allN_true fun k hk => decide_eq_true ?_
  have := h2 _ ((mem_at Xt.nought).2 ⟨k, hk, rfl⟩)
  exact ⟨this.1, this.2.1, this.2.2, fun h0 => up_at Xt.nought h (by omega) hk⟩
theorem pts_up {l : List Int} (h : ptsOk l = true) : Up id l ∧ ∀ p ∈ l, p ≠ 0 := by
  have h1 : ∀ k, k < l.length → _ := fun k hk => of_decide_eq_true (allN_at h hk)
  refine ⟨up_of_steps _ 0 l fun k hk => (h1 (k + 1) hk).2 (by omega), fun x hx => ?_⟩
  obtain ⟨k, hk, rfl⟩ := (mem_at (0 : Int)).1 hx
  exact (h1 k hk).1
theorem pts_of_up {l : List Int} (h : Up id l) (h2 : ∀ p ∈ l, p ≠ 0) : ptsOk l = true := by
  refine allN_true fun k hk => decide_eq_true ?_
  exact ⟨h2 _ ((mem_at (0 : Int)).2 ⟨k, hk, rfl⟩), fun h0 => up_at (0 : Int) h (by omega) hk⟩

/-! putting in -/
def insP (p : Int) : List Int → List Int
  | [] => [p]
  | q :: r => if q < p then q :: insP p r else if q = p then q :: r else p :: q :: r
def insX (i b : Int) : List Xt → List Xt
  | [] => [⟨i, b⟩]
  | x :: r => if x.id < i then x :: insX i b r else if x.id = i then ⟨i, max b x.bl⟩ :: r else ⟨i, b⟩ :: x :: r
theorem insP_at (p : Int) : ∀ (l : List Int) (k : Nat), k ≤ l.length → (∀ j, j < k → l.getD j 0 < p) → (k < l.length → ¬ l.getD k 0 < p) → insP p l = if k < l.length ∧ l.getD k 0 = p then l else l.take k ++ p :: l.drop k
  | [], k, hk, _, _ => by
    have : k = 0 := by simpa using hk
    subst this
    simp [insP]
  | q :: r, 0, _, _, h2 => by
    have h3 : ¬ q < p := by simpa using h2 (by simp)
    rw [insP, if_neg h3]
    simp
  | q :: r, k + 1, hk, h1, h2 => by
    have h3 : q < p := by simpa using h1 0 (by omega)
    rw [insP, if_pos h3, insP_at p r k (by simpa using hk) (fun j hj => by simpa using h1 (j + 1) (by omega)) (fun hj => by simpa using h2 (by simpa using hj))]
    by_cases h4 : k < r.length ∧ r.getD k 0 = p
    · rw [if_pos h4, if_pos (by simpa using h4)]
    · rw [if_neg h4, if_neg (by simpa using h4)]
      rfl
theorem insX_at (i b : Int) : ∀ (l : List Xt) (k : Nat), k ≤ l.length → (∀ j, j < k → (l.getD j Xt.nought).id < i) → (k < l.length → ¬ (l.getD k Xt.nought).id < i) →
    insX i b l = if k < l.length ∧ (l.getD k Xt.nought).id = i then l.take k ++ ⟨i, max b (l.getD k Xt.nought).bl⟩ :: l.drop (k + 1) else l.take k ++ ⟨i, b⟩ :: l.drop k
  | [], k, hk, _, _ => by
    have : k = 0 := by simpa using hk
    subst this
    simp [insX]
  | q :: r, 0, _, _, h2 => by
    have h3 : ¬ q.id < i := by simpa using h2 (by simp)
    rw [insX, if_neg h3]
    simp
  | q :: r, k + 1, hk, h1, h2 => by
    have h3 : q.id < i := by simpa using h1 0 (by omega)
    rw [insX, if_pos h3, insX_at i b r k (by simpa using hk) (fun j hj => by simpa using h1 (j + 1) (by omega)) (fun hj => by simpa using h2 (by simpa using hj))]
    by_cases h4 : k < r.length ∧ (r.getD k Xt.nought).id = i
    · rw [if_pos h4, if_pos (by simpa using h4)]
      simp
    · rw [if_neg h4, if_neg (by simpa using h4)]
      rfl
theorem mem_insP (p x : Int) : ∀ l : List Int, x ∈ insP p l ↔ x = p ∨ x ∈ l
  | [] => by simp [insP]
  | q :: r => by
    rw [insP]
    split
    · rw [List.mem_cons, mem_insP p x r, List.mem_cons]
      constructor
      · rintro (h | h | h) <;> simp [h]
      · rintro (h | h | h) <;> simp [h]
    · split
      · rename_i h
        subst h
        simp
      · simp
theorem up_insP (p : Int) : ∀ l : List Int, Up id l → Up id (insP p l)
  | [], _ => by simp [insP, Up]
  | q :: r, h => by
    rw [insP]
    split
    · rename_i h1
      refine List.Pairwise.cons ?_ (up_insP p r (List.Pairwise.of_cons h))
      intro x hx
      rcases (mem_insP p x r).1 hx with rfl | hx
      · exact h1
      · exact List.rel_of_pairwise_cons h hx
    · split
      · exact h
      · refine List.Pairwise.cons ?_ h
        intro x hx
        rcases List.mem_cons.1 hx with rfl | hx
        · show p < x
          omega
        · have : q < x := List.rel_of_pairwise_cons h hx
          show p < x
          omega
theorem len_insP (p : Int) : ∀ l : List Int, l.length ≤ (insP p l).length ∧ (insP p l).length ≤ l.length + 1
  | [] => by simp [insP]
  | q :: r => by
    rw [insP]
    have := len_insP p r
    split
    · simp only [List.length_cons]
      omega
    · split <;> simp only [List.length_cons] <;> omega
theorem len_insX (i b : Int) : ∀ l : List Xt, l.length ≤ (insX i b l).length ∧ (insX i b l).length ≤ l.length + 1
  | [] => by simp [insX]
  | q :: r => by
    rw [insX]
    have := len_insX i b r
    split
    · simp only [List.length_cons]
      omega
    · split <;> simp only [List.length_cons] <;> omega
theorem all_insX {Q : Xt → Prop} (i b : Int) (h0 : Q ⟨i, b⟩) (h1 : ∀ c, Q ⟨i, c⟩ → Q ⟨i, max b c⟩) : ∀ l : List Xt, (∀ x ∈ l, Q x) → ∀ x ∈ insX i b l, Q x
  | [], _, x, hx => by
    simp only [insX, List.mem_singleton] at hx
    subst hx
    exact h0
  | q :: r, h, x, hx => by
    rw [insX] at hx
    split at hx
    · rcases List.mem_cons.1 hx with rfl | hx
      · exact h _ (List.mem_cons_self ..)
      · exact all_insX i b h0 h1 r (fun y hy => h y (List.mem_cons_of_mem _ hy)) x hx
    · split at hx
      · rename_i h2
        rcases List.mem_cons.1 hx with rfl | hx
        · refine h1 _ ?_
          rw [← h2]
          exact h _ (List.mem_cons_self ..)
        · exact h _ (List.mem_cons_of_mem _ hx)
      · rcases List.mem_cons.1 hx with rfl | hx
        · exact h0
        · exact h _ hx
theorem up_insX (i b : Int) : ∀ l : List Xt, Up Xt.id l → Up Xt.id (insX i b l)
  | [], _ => by simp [insX, Up]
  | q :: r, h => by
    rw [insX]
    split
    · rename_i h1
      refine List.Pairwise.cons ?_ (up_insX i b r (List.Pairwise.of_cons h))
      exact all_insX (Q := fun x => q.id < x.id) i b h1 (fun c _ => h1) r (fun x hx => List.rel_of_pairwise_cons h hx)
    · split
      · rename_i h2
        refine List.Pairwise.cons ?_ (List.Pairwise.of_cons h)
        intro x hx
        have := List.rel_of_pairwise_cons h hx
        show i < x.id
        omega
      · refine List.Pairwise.cons ?_ h
        intro x hx
        rcases List.mem_cons.1 hx with rfl | hx
        · show i < x.id
          omega
        · have := List.rel_of_pairwise_cons h hx
          show i < x.id
          omega
/-- An extent with that Id and at least so many blocks. -/
def hasX (i b : Int) (l : List Xt) : Prop := ∃ x ∈ l, x.id = i ∧ b ≤ x.bl
theorem has_nil (i b : Int) : ¬ hasX i b [] := by rintro ⟨x, hx, _⟩; cases hx
theorem has_cons (i b : Int) (x : Xt) (l : List Xt) : hasX i b (x :: l) ↔ (x.id = i ∧ b ≤ x.bl) ∨ hasX i b l := by
  unfold hasX
  simp
theorem has_insX (i b j c : Int) : ∀ l : List Xt, hasX j c (insX i b l) ↔ (j = i ∧ c ≤ b) ∨ hasX j c l
  | [] => by
    rw [insX, has_cons]
    simp only [has_nil, or_false]
    constructor
    · rintro ⟨h1, h2⟩; exact ⟨h1.symm, h2⟩
    · rintro ⟨h1, h2⟩; exact ⟨h1.symm, h2⟩
  | q :: r => by
    rw [insX]
    split
    · rw [has_cons, has_insX i b j c r, has_cons]
      constructor
      · rintro (h | h | h) <;> simp [h]
      · rintro (h | h | h) <;> simp [h]
    · split
      · rename_i h1
        rw [has_cons, has_cons]
        simp only
        constructor
        · rintro (⟨h2, h3⟩ | h)
          · by_cases h4 : c ≤ b
            · exact .inl ⟨h2.symm, h4⟩
            · refine .inr (.inl ⟨by omega, ?_⟩)
              omega
          · exact .inr (.inr h)
        · rintro (⟨h2, h3⟩ | ⟨h2, h3⟩ | h)
          · exact .inl ⟨h2.symm, by omega⟩
          · exact .inl ⟨by omega, by omega⟩
          · exact .inr h
      · rw [has_cons]
        simp only
        constructor
        · rintro (⟨h2, h3⟩ | h)
          · exact .inl ⟨h2.symm, h3⟩
          · exact .inr h
        · rintro (⟨h2, h3⟩ | h)
          · exact .inl ⟨h2.symm, h3⟩
          · exact .inr h
end Go.Proofs.Ytmfebmiigkmkbaa.Dm
