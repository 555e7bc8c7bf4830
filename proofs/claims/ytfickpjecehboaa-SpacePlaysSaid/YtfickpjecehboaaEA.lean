/- The document's own space in memory: a row of pointers to pages, rising, each with its bytes; what of it stays when other blocks turn. -/
import Derived.Test.YtfickpjecehboaaUB
set_option linter.unusedVariables false
namespace Go.Proofs.Ytfickpjecehboaa
open Go.RowKit Go.Maps

/-- A page of the document's space: its number, its block, its bytes' block, how much room is there, and what lies behind. -/
structure RP where
  i : Nat
  p : Nat
  q : Nat
  c : Nat
  R : List Value
def RP.nought : RP := ⟨0, 0, 0, 0, []⟩
def bcs (f : Pg) : List Value := (List.range 256).map fun j => Value.int .u8 ((f j).toNat : Int)
theorem bcs_length (f : Pg) : (bcs f).length = 256 := by simp [bcs]
theorem bcs_get (f : Pg) (j : Nat) (h : j < 256) : (bcs f)[j]? = some (.int .u8 ((f j).toNat : Int)) := by simp [bcs, h]
def ptrP (e : RP) : Value := .pointer (some ⟨e.p, 0, none⟩)

def PAt (w : World) (a : Option Addr) (L : List RP) : Prop := L = [] ∨ ∃ h R, a = some ⟨h, 0, none⟩ ∧ Blk w h 66 (L.map ptrP ++ R)
structure PageAt (w : World) (B : Nat) (e : RP) (f : Pg) : Prop where
  lt : e.i < 4096
  head : Blk w e.p 68 [.int .u32 (256 * (e.i : Int)), .int .u8 ((f 256).toNat : Int), .slice (some ⟨e.q, 0, none⟩) 256 e.c]
  bytes : Blk w e.q 5 (bcs f ++ e.R)
  low : B ≤ e.q
structure RefP (w : World) (B g : Nat) (a : Option Addr) (c : Nat) (L : List RP) (A : As) : Prop where
  gB : B ≤ g
  head : Blk w g 31 [.slice a L.length c]
  row : PAt w a L
  up : (L.map (·.i)).Pairwise (· < ·)
  has : ∀ i, (A i).isSome = true → i ∈ L.map (·.i)
  page : ∀ e, e ∈ L → ∃ f, A e.i = some f ∧ PageAt w B e f
  apart : (L.map (·.q)).Nodup
def RefAt (w : World) (B g : Nat) (A : As) : Prop := ∃ a c L, RefP w B g a c L A

theorem up_len : ∀ (l : List Nat) (m n : Nat), l.Pairwise (· < ·) → (∀ x, x ∈ l → m ≤ x ∧ x < n) → l.length ≤ n - m
  | [], m, n, _, _ => Nat.zero_le _
  | x :: r, m, n, hp, h => by
    have h1 := List.pairwise_cons.1 hp
    have hx := h x (List.mem_cons_self ..)
    have := up_len r (x + 1) n h1.2 (fun y hy => ⟨h1.1 y hy, (h y (List.mem_cons_of_mem _ hy)).2⟩)
    simp only [List.length_cons]
    omega

section
variable {w w' : World} {B g b e n c : Nat} {a : Option Addr} {L : List RP} {A : As}
theorem RefP.len (h : RefP w B g a c L A) : L.length ≤ 4096 := by
  have := up_len (L.map (·.i)) 0 4096 h.up (fun x hx => by
    obtain ⟨e, he, rfl⟩ := List.mem_map.1 hx
    obtain ⟨f, _, hp⟩ := h.page e he
    exact ⟨Nat.zero_le _, hp.lt⟩)
  simpa using this
theorem RefP.cell0 (h : RefP w B g a c L A) : w.cell? ⟨g, 0, none⟩ = some (.slice a L.length c) := by rw [h.head.cell]; rfl
theorem RefP.mem (h : RefP w B g a c L A) {j : Nat} (hj : j < L.length) : L.getD j RP.nought ∈ L := by
  rw [List.getD_eq_getElem?_getD, List.getElem?_eq_getElem hj]
  exact List.getElem_mem hj
theorem RefP.addr (h : RefP w B g a c L A) {j : Nat} (hj : j < L.length) : ∃ k, a = some ⟨k, 0, none⟩ ∧ ∀ i, i < L.length → w.cell? ⟨k, i, none⟩ = some (ptrP (L.getD i RP.nought)) := by
  rcases h.row with rfl | ⟨k, R, rfl, hb⟩
  · exact absurd hj (by simp)
  · refine ⟨k, rfl, fun i hi => ?_⟩
    rw [hb.cell, List.getElem?_append_left (by simpa using hi), List.getElem?_map, List.getD_eq_getElem?_getD, List.getElem?_eq_getElem hi]
    rfl
theorem RefP.three (h : RefP w B g a c L A) {x : RP} (hx : x ∈ L) : ∃ f, A x.i = some f ∧ x.i < 4096 ∧ w.cell? ⟨x.p, 0, none⟩ = some (.int .u32 (256 * (x.i : Int))) ∧ w.cell? ⟨x.p, 1, none⟩ = some (.int .u8 ((f 256).toNat : Int)) ∧
    w.cell? ⟨x.p, 2, none⟩ = some (.slice (some ⟨x.q, 0, none⟩) 256 x.c) ∧ ∀ j, j < 256 → w.cell? ⟨x.q, j, none⟩ = some (.int .u8 ((f j).toNat : Int)) := by
  obtain ⟨f, h1, h2⟩ := h.page x hx
  refine ⟨f, h1, h2.lt, by rw [h2.head.cell]; rfl, by rw [h2.head.cell]; rfl, by rw [h2.head.cell]; rfl, fun j hj => ?_⟩
  rw [h2.bytes.cell, List.getElem?_append_left (by rw [bcs_length]; exact hj), bcs_get f j hj]
/-- What keeps such blocks keeps the space. -/
theorem RefP.same (h : RefP w B g a c L A) (hk : ∀ j t cs, Blk w j t cs → (t = 31 ∨ t = 66 ∨ t = 68 ∨ t = 5) → Blk w' j t cs) : RefP w' B g a c L A :=
  ⟨h.gB, hk _ _ _ h.head (by simp), by
    rcases h.row with h1 | ⟨k, R, h1, h2⟩
    · exact .inl h1
    · exact .inr ⟨k, R, h1, hk _ _ _ h2 (by simp)⟩, h.up, h.has, fun x hx => by
    obtain ⟨f, h1, h2⟩ := h.page x hx
    exact ⟨f, h1, h2.lt, hk _ _ _ h2.head (by simp), hk _ _ _ h2.bytes (by simp), h2.low⟩, h.apart⟩
theorem RefP.below (h : RefP w B g a c L A) (hb : Below w.heap.size w w') : RefP w' B g a c L A := h.same fun j t cs h1 _ => h1.below hb h1.lt
theorem RefP.turn (h : RefP w B g a c L A) (ht : Turn w w' b e) {A2 : As} (hs : SpaceAt w b e n A2) : RefP w' B g a c L A := h.same fun j t cs h1 h2 => ht.keep hs h1 (by rcases h2 with rfl | rfl | rfl | rfl <;> decide)
theorem RefAt.below (h : RefAt w B g A) (hb : Below w.heap.size w w') : RefAt w' B g A := by obtain ⟨a, c, L, h⟩ := h; exact ⟨a, c, L, h.below hb⟩
theorem RefAt.turn (h : RefAt w B g A) (ht : Turn w w' b e) {A2 : As} (hs : SpaceAt w b e n A2) : RefAt w' B g A := by obtain ⟨a, c, L, h⟩ := h; exact ⟨a, c, L, h.turn ht hs⟩
end
/-- The document's space without pages. -/
theorem RefAt.bare {w : World} {B g : Nat} (h : Bare w g) (hB : B ≤ g) : RefAt w B g (fun _ => none) :=
  ⟨none, 0, [], ⟨hB, h, .inl rfl, List.Pairwise.nil, (fun i hi => by cases hi), (fun e he => by cases he), List.Pairwise.nil⟩⟩

/-- Only the document's spaces, and bytes of pages, from B on, have turned. -/
structure RTurn (B : Nat) (w w' : World) : Prop where
  os : w'.os = w.os
  tape : w'.tape = w.tape
  output : w'.output = w.output
  size : w.heap.size ≤ w'.heap.size
  block : ∀ j, j < w.heap.size → (∀ t cs fr, w.heap[j]? = some (.cells cs t fr) → (t = 31 ∨ t = 5) → j < B) → w'.heap[j]? = w.heap[j]?
section
variable {w w' w2 : World} {B g b e n : Nat} {A : As}
theorem RTurn.refl (w : World) (B : Nat) : RTurn B w w := ⟨rfl, rfl, rfl, Nat.le_refl _, fun _ _ _ => rfl⟩
theorem RTurn.ofBelow (h : Below w.heap.size w w') (B : Nat) : RTurn B w w' := ⟨h.os, h.tape, h.output, h.size, fun j hj _ => h.block j hj⟩
theorem RTurn.trans (h : RTurn B w w') (h2 : RTurn B w' w2) : RTurn B w w2 :=
  ⟨h2.os.trans h.os, h2.tape.trans h.tape, h2.output.trans h.output, Nat.le_trans h.size h2.size, fun j hj hc => by
    have h1 := h.block j hj hc
    rw [h2.block j (Nat.lt_of_lt_of_le hj h.size) (fun t cs fr h3 h4 => hc t cs fr (by rw [← h1]; exact h3) h4), h1]⟩
theorem RTurn.below (h : RTurn B w w') (hB : B ≤ w.heap.size) : Below B w w' := ⟨h.os, h.tape, h.output, h.size, fun j hj => h.block j (by omega) (fun _ _ _ _ _ => hj)⟩
theorem RTurn.keep (h : RTurn B w w') {j : Nat} {t : TypeId} {cs : List Value} (hb : Blk w j t cs) (h1 : t ≠ 31) (h2 : t ≠ 5) : Blk w' j t cs := by
  refine hb.same (h.block j hb.lt ?_)
  intro t' cs' fr h3 h4
  unfold Blk at hb
  rw [hb] at h3
  injection h3 with h3
  injection h3 with _ h5 _
  subst h5
  rcases h4 with h4 | h4
  · exact absurd h4 h1
  · exact absurd h4 h2
theorem RTurn.space (h : RTurn B w w') (hs : SpaceAt w b e n A) : SpaceAt w' b e n A := by
  have hm := hs.isMap
  obtain ⟨pg, hs⟩ := hs
  refine ⟨pg, h.keep hs.head (by decide) (by decide), hs.lo, Nat.le_trans hs.hi h.size, hs.map.same (h.block b hs.map.lt ?_), hs.none, fun i p hp => ?_, hs.inj⟩
  · intro t cs fr h1 _
    obtain ⟨es, k, h2⟩ := hm
    rw [h2] at h1
    cases h1
  · obtain ⟨q1, q2, q3, f, q4, q5⟩ := hs.page i p hp
    exact ⟨q1, q2, q3, f, q4, h.keep q5 (by decide) (by decide)⟩
theorem RTurn.ofGrown {cs : List Value} (h : w.grownBy w' (some g)) (hb : Blk w g 31 cs) (hB : B ≤ g) : RTurn B w w' :=
  ⟨h.os, h.tape, h.output, h.size, fun j hj hc => h.block j hj (by
    intro he
    cases he
    unfold Blk at hb
    have := hc _ _ _ hb (.inl rfl)
    omega)⟩
theorem RTurn.setCell {q i : Nat} {cs : List Value} (hb : Blk w q 5 cs) (hB : B ≤ q) (v : Value) : RTurn B w (w.setCell ⟨q, i, none⟩ v) :=
  ⟨rfl, rfl, rfl, by simp, fun j hj hc => Below.heap_setCell w ⟨q, i, none⟩ v j (by
    intro hjq
    have hjq : j = q := hjq
    rw [hjq] at hc
    unfold Blk at hb
    have h9 : q < B := hc _ _ _ hb (.inr rfl)
    omega)⟩
end
end Go.Proofs.Ytfickpjecehboaa
