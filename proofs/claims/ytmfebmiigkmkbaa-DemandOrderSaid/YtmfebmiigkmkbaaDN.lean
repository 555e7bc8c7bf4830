/- What notes and manifests come to when put together, and what covers what: the laws of the chapter's P11.3. Plain mathematics: no program is named. -/
import Derived.Test.YtmfebmiigkmkbaaDM
namespace Go.Proofs.Ytmfebmiigkmkbaa.Dm
open Oj

def add (m : Mf) (n : Nt) : Mf :=
  if n.kind = 1 then { m with pages := max m.pages n.n } else if n.kind = 2 then { m with ext := insX n.n n.m m.ext } else if n.kind = 3 then { m with ports := insP n.n m.ports } else { m with con := true }
def gat (l : List Nt) : Mf := l.foldl add Mf.nought
def notesOf (m : Mf) : List Nt := (if 0 < m.pages then [⟨1, m.pages, 0⟩] else []) ++ m.ext.map (fun x => ⟨2, x.id, x.bl⟩) ++ m.ports.map (fun p => ⟨3, p, 0⟩) ++ (if m.con = true then [⟨4, 0, 0⟩] else [])
/-- What the manifest covers, of a note that may be. -/
def cov (m : Mf) (n : Nt) : Bool := if n.kind = 1 then decide (n.n ≤ m.pages) else if n.kind = 2 then decide (∃ x ∈ m.ext, x.id = n.n ∧ n.m ≤ x.bl) else if n.kind = 3 then decide (n.n ∈ m.ports) else m.con
def notesR (m : Mf) : List Nt := if mfOk m = true then notesOf m else []
def noteR (m : Mf) (n : Nt) : Bool := mfOk m && noteOk n && cov m n
def coversR (m n : Mf) : Bool := mfOk m && mfOk n && (notesOf n).all (cov m)
def allNotes (l : List Nt) : Bool := allN l.length fun k => noteOk (l.getD k Nt.nought)
def allMfs (l : List Mf) : Bool := allN l.length fun k => mfOk (l.getD k Mf.nought)
def full (m : Mf) : Mf × Int := if m.ports.length ≤ 16 then (m, 0) else (Mf.nought, 4)
def ofR (l : List Nt) : Mf × Int := if allNotes l = true then full (gat l) else (Mf.nought, 2)
def unionR (l : List Mf) : Mf × Int := if allMfs l = true then full (gat (l.flatMap notesOf)) else (Mf.nought, 2)

/-- What a note alone covers. -/
def cov1 (n x : Nt) : Prop := (x.kind = 1 ∧ n.kind = 1 ∧ x.n ≤ n.n) ∨ (x.kind = 2 ∧ n.kind = 2 ∧ x.n = n.n ∧ x.m ≤ n.m) ∨ (x.kind = 3 ∧ n.kind = 3 ∧ x.n = n.n) ∨ (x.kind = 4 ∧ n.kind = 4)
def Kd (n : Nt) : Prop := n.kind = 1 ∨ n.kind = 2 ∨ n.kind = 3 ∨ n.kind = 4
theorem kd_of {n : Nt} (h : noteOk n = true) : Kd n := by
  have := of_decide_eq_true h
  unfold Kd
  omega
theorem cov_p {m : Mf} {n : Nt} (h : n.kind = 1) : cov m n = true ↔ n.n ≤ m.pages := by unfold cov; rw [if_pos h, decide_eq_true_eq]
theorem cov_x {m : Mf} {n : Nt} (h : n.kind = 2) : cov m n = true ↔ hasX n.n n.m m.ext := by unfold cov hasX; rw [if_neg (by omega), if_pos h, decide_eq_true_eq]
theorem cov_t {m : Mf} {n : Nt} (h : n.kind = 3) : cov m n = true ↔ n.n ∈ m.ports := by unfold cov; rw [if_neg (by omega), if_neg (by omega), if_pos h, decide_eq_true_eq]
theorem cov_c {m : Mf} {n : Nt} (h : n.kind = 4) : cov m n = true ↔ m.con = true := by unfold cov; rw [if_neg (by omega), if_neg (by omega), if_neg (by omega)]
theorem cov_add {m : Mf} {n x : Nt} (hx : Kd x) (hn : Kd n) : cov (add m n) x = true ↔ cov m x = true ∨ cov1 n x := by
  unfold Kd at hx hn
  unfold cov1 add
  rcases hx with hx | hx | hx | hx
  · rw [cov_p hx, cov_p hx]
    rcases hn with hn | hn | hn | hn
    · rw [if_pos hn]
      simp [hx, hn]
      omega
    · rw [if_neg (by omega), if_pos hn]
      simp [hx, hn]
    · rw [if_neg (by omega), if_neg (by omega), if_pos hn]
      simp [hx, hn]
    · rw [if_neg (by omega), if_neg (by omega), if_neg (by omega)]
      simp [hx, hn]
  · rw [cov_x hx, cov_x hx]
    rcases hn with hn | hn | hn | hn
    · rw [if_pos hn]
      simp [hx, hn]
    · rw [if_neg (by omega), if_pos hn]
      simp only [has_insX, hx, hn]
      simp [or_comm]
    · rw [if_neg (by omega), if_neg (by omega), if_pos hn]
      simp [hx, hn]
    · rw [if_neg (by omega), if_neg (by omega), if_neg (by omega)]
      simp [hx, hn]
  · rw [cov_t hx, cov_t hx]
    rcases hn with hn | hn | hn | hn
    · rw [if_pos hn]
      simp [hx, hn]
    · rw [if_neg (by omega), if_pos hn]
      simp [hx, hn]
    · rw [if_neg (by omega), if_neg (by omega), if_pos hn]
      simp only [mem_insP, hx, hn]
      simp [or_comm]
    · rw [if_neg (by omega), if_neg (by omega), if_neg (by omega)]
      simp [hx, hn]
  · rw [cov_c hx, cov_c hx]
    rcases hn with hn | hn | hn | hn
    · rw [if_pos hn]
      simp [hx, hn]
    · rw [if_neg (by omega), if_pos hn]
      simp [hx, hn]
    · rw [if_neg (by omega), if_neg (by omega), if_pos hn]
      simp [hx, hn]
    · rw [if_neg (by omega), if_neg (by omega), if_neg (by omega)]
      simp [hx, hn]
theorem cov_fold {x : Nt} (hx : Kd x) : ∀ (l : List Nt) (m : Mf), (∀ n ∈ l, Kd n) → (cov (l.foldl add m) x = true ↔ cov m x = true ∨ ∃ n ∈ l, cov1 n x)
  | [], m, _ => by simp
  | n :: r, m, h => by
    rw [List.foldl_cons, cov_fold hx r (add m n) (fun y hy => h y (List.mem_cons_of_mem _ hy)), cov_add hx (h n (List.mem_cons_self ..))]
    simp [or_assoc]
def Triv (x : Nt) : Prop := x.kind = 1 ∧ x.n ≤ 0
theorem cov_nought {x : Nt} (hx : Kd x) : cov Mf.nought x = true ↔ Triv x := by
  unfold Triv
  rcases hx with h | h | h | h
  · rw [cov_p h]; simp [h, Mf.nought]
  · rw [cov_x h]; simp [h, Mf.nought, has_nil]
  · rw [cov_t h]; simp [h, Mf.nought]
  · rw [cov_c h]; simp [h, Mf.nought]
theorem cov_gat {x : Nt} (hx : Kd x) {l : List Nt} (h : ∀ n ∈ l, Kd n) : cov (gat l) x = true ↔ Triv x ∨ ∃ n ∈ l, cov1 n x := by
  unfold gat
  rw [cov_fold hx l _ h, cov_nought hx]
theorem cov1_self {x : Nt} (hx : Kd x) : cov1 x x := by
  unfold Kd at hx
  unfold cov1
  omega
theorem cov_trans {m : Mf} {n x : Nt} (hn : cov m n = true) (h : cov1 n x) : cov m x = true := by
  rcases h with ⟨h1, h2, h3⟩ | ⟨h1, h2, h3, h4⟩ | ⟨h1, h2, h3⟩ | ⟨h1, h2⟩
  · rw [cov_p h2] at hn
    rw [cov_p h1]
    omega
  · rw [cov_x h2] at hn
    rw [cov_x h1, h3]
    obtain ⟨y, hy, h5, h6⟩ := hn
    exact ⟨y, hy, h5, by omega⟩
  · rw [cov_t h2] at hn
    rw [cov_t h1, h3]
    exact hn
  · rw [cov_c h2] at hn
    rw [cov_c h1]
    exact hn

/-- A manifest that may be, but for how many ports it has. -/
structure Fine (m : Mf) : Prop where
  p0 : 0 ≤ m.pages
  p1 : m.pages ≤ 1024
  x0 : Up Xt.id m.ext
  x1 : ∀ x ∈ m.ext, (0 ≤ x.id ∧ x.id < 16) ∧ 1 ≤ x.bl ∧ x.bl ≤ 1024
  t0 : Up id m.ports
  t1 : ∀ p ∈ m.ports, 1 ≤ p ∧ p ≤ 65535
theorem fine_nought : Fine Mf.nought := ⟨by decide, by decide, List.Pairwise.nil, (fun x hx => by cases hx), List.Pairwise.nil, (fun x hx => by cases hx)⟩
def nn (n : Nt) : Prop := 0 ≤ n.n ∧ 0 ≤ n.m
theorem note_cases {n : Nt} (h : noteOk n = true) : (n.kind = 1 ∧ n.n ≤ 1024 ∧ n.m = 0) ∨ (n.kind = 2 ∧ n.n < 16 ∧ 1 ≤ n.m ∧ n.m ≤ 1024) ∨ (n.kind = 3 ∧ 1 ≤ n.n ∧ n.n ≤ 65535 ∧ n.m = 0) ∨ (n.kind = 4 ∧ n.n = 0 ∧ n.m = 0) := of_decide_eq_true h
theorem fine_add {m : Mf} {n : Nt} (h : Fine m) (hn : noteOk n = true) (h0 : 0 ≤ n.n) : Fine (add m n) := by
  unfold add
  rcases note_cases hn with ⟨k, h1, h2⟩ | ⟨k, h1, h2, h3⟩ | ⟨k, h1, h2, h3⟩ | ⟨k, h1, h2⟩
  · rw [if_pos k]
    have := h.p0
    have := h.p1
    exact ⟨by simp only; omega, by simp only; omega, h.x0, h.x1, h.t0, h.t1⟩
  · rw [if_neg (by omega), if_pos k]
    refine ⟨h.p0, h.p1, up_insX _ _ _ h.x0, ?_, h.t0, h.t1⟩
    exact all_insX (Q := fun x => (0 ≤ x.id ∧ x.id < 16) ∧ 1 ≤ x.bl ∧ x.bl ≤ 1024) n.n n.m ⟨⟨h0, h1⟩, h2, h3⟩ (fun c hc => ⟨hc.1, by simp only at hc ⊢; omega⟩) _ h.x1
  · rw [if_neg (by omega), if_neg (by omega), if_pos k]
    refine ⟨h.p0, h.p1, h.x0, h.x1, up_insP _ _ h.t0, ?_⟩
    intro p hp
    rcases (mem_insP _ _ _).1 hp with rfl | hp
    · exact ⟨h1, h2⟩
    · exact h.t1 p hp
  · rw [if_neg (by omega), if_neg (by omega), if_neg (by omega)]
    exact ⟨h.p0, h.p1, h.x0, h.x1, h.t0, h.t1⟩
/-- Notes that may be. -/
def Good (l : List Nt) : Prop := ∀ n ∈ l, noteOk n = true ∧ 0 ≤ n.n
theorem Good.kd {l : List Nt} (h : Good l) : ∀ n ∈ l, Kd n := fun n hn => kd_of (h n hn).1
theorem fine_fold : ∀ (l : List Nt) (m : Mf), Fine m → Good l → Fine (l.foldl add m)
  | [], _, h, _ => h
  | n :: r, m, h, hl => fine_fold r (add m n) (fine_add h (hl n (List.mem_cons_self ..)).1 (hl n (List.mem_cons_self ..)).2) (fun y hy => hl y (List.mem_cons_of_mem _ hy))
theorem fine_gat {l : List Nt} (h : Good l) : Fine (gat l) := fine_fold l _ fine_nought h
theorem len_add (m : Mf) (n : Nt) : m.ports.length ≤ (add m n).ports.length ∧ (add m n).ports.length ≤ m.ports.length + 1 ∧ m.ext.length ≤ (add m n).ext.length ∧ (add m n).ext.length ≤ m.ext.length + 1 := by
  unfold add
  have h1 := len_insP n.n m.ports
  have h2 := len_insX n.n n.m m.ext
  split
  · simp
  · split
    · simp only
      omega
    · split
      · simp only
        omega
      · simp
theorem len_fold : ∀ (l : List Nt) (m : Mf), m.ports.length ≤ (l.foldl add m).ports.length ∧ (l.foldl add m).ports.length ≤ m.ports.length + l.length ∧ (l.foldl add m).ext.length ≤ m.ext.length + l.length
  | [], m => by simp
  | n :: r, m => by
    have h1 := len_add m n
    have h2 := len_fold r (add m n)
    rw [List.foldl_cons, List.length_cons]
    omega
theorem len_gat (l : List Nt) : (gat l).ports.length ≤ l.length ∧ (gat l).ext.length ≤ l.length := by
  have h := len_fold l Mf.nought
  have h1 : Mf.nought.ports.length = 0 := rfl
  have h2 : Mf.nought.ext.length = 0 := rfl
  unfold gat
  omega
theorem gat_append (a b : List Nt) : gat (a ++ b) = b.foldl add (gat a) := by unfold gat; rw [List.foldl_append]
theorem len_prefix (a b : List Nt) : (gat a).ports.length ≤ (gat (a ++ b)).ports.length := by rw [gat_append]; exact (len_fold b _).1
theorem gat_succ {l : List Nt} {k : Nat} (h : k < l.length) : gat (l.take (k + 1)) = add (gat (l.take k)) (l.getD k Nt.nought) := by
  rw [List.take_succ_eq_append_getElem h, gat_append, List.getD_eq_getElem?_getD, List.getElem?_eq_getElem h]
  rfl

/-- Manifests that cover the same notes are the same. -/
theorem fine_ext {a b : Mf} (ha : Fine a) (hb : Fine b) (h : ∀ x, Kd x → nn x → (cov a x = true ↔ cov b x = true)) : a = b := by
  have hp : a.pages = b.pages := by
    have h1 := h ⟨1, a.pages, 0⟩ (.inl rfl) ⟨ha.p0, Int.le_refl 0⟩
    have h2 := h ⟨1, b.pages, 0⟩ (.inl rfl) ⟨hb.p0, Int.le_refl 0⟩
    rw [cov_p rfl, cov_p rfl] at h1 h2
    simp only at h1 h2
    omega
  have hc : a.con = b.con := by
    have h1 := h ⟨4, 0, 0⟩ (.inr (.inr (.inr rfl))) ⟨by decide, by decide⟩
    rw [cov_c rfl, cov_c rfl] at h1
    exact Bool.eq_iff_iff.2 h1
  have ht : a.ports = b.ports := by
    refine up_ext ha.t0 hb.t0 fun p => ⟨fun hp => ?_, fun hp => ?_⟩
    · have h1 := h ⟨3, p, 0⟩ (.inr (.inr (.inl rfl))) ⟨by have := (ha.t1 p hp).1; simp only; omega, Int.le_refl 0⟩
      rw [cov_t rfl, cov_t rfl] at h1
      exact h1.1 hp
    · have h1 := h ⟨3, p, 0⟩ (.inr (.inr (.inl rfl))) ⟨by have := (hb.t1 p hp).1; simp only; omega, Int.le_refl 0⟩
      rw [cov_t rfl, cov_t rfl] at h1
      exact h1.2 hp
  have hx : ∀ a b : Mf, Fine a → Fine b → (∀ x, Kd x → nn x → (cov a x = true ↔ cov b x = true)) → ∀ y, y ∈ a.ext → y ∈ b.ext := by
    intro a b ha hb h y hy
    have hq := ha.x1 y hy
    have h1 := h ⟨2, y.id, y.bl⟩ (.inr (.inl rfl)) ⟨by simp only; omega, by simp only; omega⟩
    rw [cov_x rfl, cov_x rfl] at h1
    obtain ⟨z, hz, hz1, hz2⟩ := h1.1 ⟨y, hy, rfl, Int.le_refl _⟩
    simp only at hz1 hz2
    have h2 := h ⟨2, z.id, z.bl⟩ (.inr (.inl rfl)) ⟨by have := hb.x1 z hz; simp only; omega, by have := hb.x1 z hz; simp only; omega⟩
    rw [cov_x rfl, cov_x rfl] at h2
    obtain ⟨y', hy', h3, h4⟩ := h2.2 ⟨z, hz, rfl, Int.le_refl _⟩
    simp only at h3 h4
    have e : y' = y := by
      obtain ⟨i, hi, rfl⟩ := (mem_at Xt.nought).1 hy
      obtain ⟨j, hj, rfl⟩ := (mem_at Xt.nought).1 hy'
      rcases Nat.lt_trichotomy i j with hij | hij | hij
      · have := up_at Xt.nought ha.x0 hij hj
        omega
      · rw [hij]
      · have := up_at Xt.nought ha.x0 hij hi
        omega
    subst e
    have e2 : y' = z := (Xt.eq_iff _ _).1 ⟨by omega, by omega⟩
    rw [e2]
    exact hz
  have he : a.ext = b.ext := up_ext ha.x0 hb.x0 fun y => ⟨hx a b ha hb h y, hx b a hb ha (fun x k q => (h x k q).symm) y⟩
  obtain ⟨a1, a2, a3, a4⟩ := a
  obtain ⟨b1, b2, b3, b4⟩ := b
  simp only at hp hc ht he
  subst hp hc ht he
  rfl
theorem gat_same {a b : List Nt} (ha : Good a) (hb : Good b) (h : ∀ n, n ∈ a ↔ n ∈ b) : gat a = gat b := by
  refine fine_ext (fine_gat ha) (fine_gat hb) fun x hx _ => ?_
  rw [cov_gat hx ha.kd, cov_gat hx hb.kd]
  simp only [h]

theorem mem_notes {m : Mf} {n : Nt} : n ∈ notesOf m ↔ (0 < m.pages ∧ n = ⟨1, m.pages, 0⟩) ∨ (∃ x ∈ m.ext, n = ⟨2, x.id, x.bl⟩) ∨ (∃ p ∈ m.ports, n = ⟨3, p, 0⟩) ∨ (m.con = true ∧ n = ⟨4, 0, 0⟩) := by
  unfold notesOf
  simp only [List.mem_append, List.mem_map]
  constructor
  · rintro (((h | ⟨x, hx, rfl⟩) | ⟨p, hp, rfl⟩) | h)
    · split at h
      · rename_i h0
        exact .inl ⟨h0, by simpa using h⟩
      · cases h
    · exact .inr (.inl ⟨x, hx, rfl⟩)
    · exact .inr (.inr (.inl ⟨p, hp, rfl⟩))
    · split at h
      · rename_i h0
        exact .inr (.inr (.inr ⟨h0, by simpa using h⟩))
      · cases h
  · rintro (⟨h0, rfl⟩ | ⟨x, hx, rfl⟩ | ⟨p, hp, rfl⟩ | ⟨h0, rfl⟩)
    · rw [if_pos h0]; exact .inl (.inl (.inl (by simp)))
    · exact .inl (.inl (.inr ⟨x, hx, rfl⟩))
    · exact .inl (.inr ⟨p, hp, rfl⟩)
    · rw [if_pos h0]; exact .inr (by simp)
theorem good_notes {m : Mf} (h : Fine m) : Good (notesOf m) := by
  intro n hn
  rcases mem_notes.1 hn with ⟨h0, rfl⟩ | ⟨x, hx, rfl⟩ | ⟨p, hp, rfl⟩ | ⟨h0, rfl⟩
  · exact ⟨decide_eq_true (.inl ⟨rfl, h.p1, rfl⟩), h.p0⟩
  · have := h.x1 x hx
    exact ⟨decide_eq_true (.inr (.inl ⟨rfl, this.1.2, this.2.1, this.2.2⟩)), this.1.1⟩
  · have := h.t1 p hp
    exact ⟨decide_eq_true (.inr (.inr (.inl ⟨rfl, this.1, this.2, rfl⟩))), by simp only; omega⟩
  · exact ⟨decide_eq_true (.inr (.inr (.inr ⟨rfl, rfl, rfl⟩))), by decide⟩
theorem cov_notes {m : Mf} {x : Nt} (hx : Kd x) : cov m x = true ↔ (x.kind = 1 ∧ x.n ≤ m.pages) ∨ ∃ n ∈ notesOf m, n.kind ≠ 1 ∧ cov1 n x := by
  rcases hx with k | k | k | k
  · rw [cov_p k]
    constructor
    · intro h; exact .inl ⟨k, h⟩
    · rintro (h | ⟨n, hn, hk, h⟩)
      · exact h.2
      · unfold cov1 at h
        omega
  · rw [cov_x k]
    constructor
    · rintro ⟨y, hy, h1, h2⟩
      exact .inr ⟨_, mem_notes.2 (.inr (.inl ⟨y, hy, rfl⟩)), by simp, .inr (.inl ⟨k, rfl, h1.symm, h2⟩)⟩
    · rintro (h | ⟨n, hn, hk, h⟩)
      · omega
      · have hk2 : n.kind = 2 ∧ x.n = n.n ∧ x.m ≤ n.m := by unfold cov1 at h; omega
        rcases mem_notes.1 hn with ⟨h0, rfl⟩ | ⟨y, hy, rfl⟩ | ⟨p, hp, rfl⟩ | ⟨h0, rfl⟩
        · simp at hk
        · exact ⟨y, hy, hk2.2.1.symm, hk2.2.2⟩
        · simp at hk2
        · simp at hk2
  · rw [cov_t k]
    constructor
    · intro hp
      exact .inr ⟨_, mem_notes.2 (.inr (.inr (.inl ⟨x.n, hp, rfl⟩))), by simp, .inr (.inr (.inl ⟨k, rfl, rfl⟩))⟩
    · rintro (h | ⟨n, hn, hk, h⟩)
      · omega
      · have hk2 : n.kind = 3 ∧ x.n = n.n := by unfold cov1 at h; omega
        rcases mem_notes.1 hn with ⟨h0, rfl⟩ | ⟨y, hy, rfl⟩ | ⟨p, hp, rfl⟩ | ⟨h0, rfl⟩
        · simp at hk
        · simp at hk2
        · rw [hk2.2]; exact hp
        · simp at hk2
  · rw [cov_c k]
    constructor
    · intro hp
      exact .inr ⟨_, mem_notes.2 (.inr (.inr (.inr ⟨hp, rfl⟩))), by simp, .inr (.inr (.inr ⟨k, rfl⟩))⟩
    · rintro (h | ⟨n, hn, hk, h⟩)
      · omega
      · have hk2 : n.kind = 4 := by unfold cov1 at h; omega
        rcases mem_notes.1 hn with ⟨h0, rfl⟩ | ⟨y, hy, rfl⟩ | ⟨p, hp, rfl⟩ | ⟨h0, rfl⟩
        · simp at hk
        · simp at hk2
        · simp at hk2
        · exact h0
/-- A manifest covers what one of its notes does. -/
theorem cov_by {m : Mf} {x : Nt} (hx : Kd x) : cov m x = true → Triv x ∨ ∃ n ∈ notesOf m, cov1 n x := by
  intro h
  rcases (cov_notes hx).1 h with ⟨k, h1⟩ | ⟨n, hn, _, h1⟩
  · by_cases h0 : 0 < m.pages
    · exact .inr ⟨_, mem_notes.2 (.inl ⟨h0, rfl⟩), .inl ⟨k, rfl, h1⟩⟩
    · exact .inl ⟨k, by omega⟩
  · exact .inr ⟨n, hn, h1⟩
theorem cov_own {m : Mf} {n : Nt} (h : Fine m) (hn : n ∈ notesOf m) : cov m n = true := by
  have hk := (good_notes h).kd n hn
  rcases mem_notes.1 hn with ⟨h0, rfl⟩ | ⟨x, hx, rfl⟩ | ⟨p, hp, rfl⟩ | ⟨h0, rfl⟩
  · rw [cov_p rfl]; exact Int.le_refl _
  · rw [cov_x rfl]; exact ⟨x, hx, rfl, Int.le_refl _⟩
  · rw [cov_t rfl]; exact hp
  · rw [cov_c rfl]; exact h0
theorem cov_triv {m : Mf} {x : Nt} (h : Fine m) (hx : Triv x) : cov m x = true := by
  rw [cov_p hx.1]
  have := h.p0
  have := hx.2
  omega
/-- The notes of a manifest come to it. -/
theorem gat_notes {m : Mf} (h : Fine m) : gat (notesOf m) = m := by
  refine fine_ext (fine_gat (good_notes h)) h fun x hx _ => ?_
  rw [cov_gat hx (good_notes h).kd]
  constructor
  · rintro (h1 | ⟨n, hn, h1⟩)
    · exact cov_triv h h1
    · exact cov_trans (cov_own h hn) h1
  · exact cov_by hx
theorem ok_fine {m : Mf} (h : mfOk m = true) (h0 : 0 ≤ m.pages) (h1 : ∀ x ∈ m.ext, 0 ≤ x.id) (h2 : ∀ p ∈ m.ports, 0 ≤ p ∧ p ≤ 65535) : Fine m ∧ m.ports.length ≤ 16 := by
  simp only [mfOk, Bool.and_eq_true, decide_eq_true_eq] at h
  obtain ⟨⟨h3, h4⟩, h5, h6⟩ := h
  refine ⟨⟨h0, h3, (ext_up h4).1, fun x hx => ?_, (pts_up h5).1, fun p hp => ?_⟩, h6⟩
  · have := (ext_up h4).2 x hx
    exact ⟨⟨h1 x hx, this.1⟩, this.2.1, this.2.2⟩
  · have := (pts_up h5).2 p hp
    have := h2 p hp
    omega
theorem fine_ok {m : Mf} (h : Fine m) (h1 : m.ports.length ≤ 16) : mfOk m = true := by
  simp only [mfOk, Bool.and_eq_true, decide_eq_true_eq]
  exact ⟨⟨h.p1, ext_of_up h.x0 fun x hx => ⟨(h.x1 x hx).1.2, (h.x1 x hx).2.1, (h.x1 x hx).2.2⟩⟩, pts_of_up h.t0 (fun p hp => by have := (h.t1 p hp).1; omega), h1⟩
/-- A note more changes nothing just where it is covered. -/
theorem add_same {m : Mf} {n : Nt} (h : Fine m) (hn : noteOk n = true) (h0 : nn n) : add m n = m ↔ cov m n = true := by
  have hk := kd_of hn
  constructor
  · intro e
    rw [← e, cov_add hk hk]
    exact .inr (cov1_self hk)
  · intro hc
    refine fine_ext (fine_add h hn h0.1) h fun x hx _ => ?_
    rw [cov_add hx hk]
    constructor
    · rintro (h1 | h1)
      · exact h1
      · exact cov_trans hc h1
    · exact .inl
end Go.Proofs.Ytmfebmiigkmkbaa.Dm
