/- Some texts of one proof, one behind the other; each has its own head below. -/
import Derived.Test.YtgdbhmlmioihpaaDoorX06
import Derived.BigQuiet
/- The document's own space in memory: a row of pointers to pages, rising, each with its bytes; what of it stays when other blocks turn. -/
section
set_option linter.unusedVariables false
namespace Go.Proofs.YtgdbhmlmioihpaaDoor
open Go.RowKit Go.Maps

/-- A page of the document's space: its number, its block, its bytes' block, how much room is there, and what lies behind. -/
structure RP where
  i : Nat
  p : Nat
  q : Nat
  c : Nat
  R : List Value
def RP.nought : RP := ⟨0, 0, 0, 0, []⟩
def bcs (f : Pg) : List Value := (List.range 256).map fun j => Value.int .u8 ((f j).toNat : Int)
theorem bcs_length (f : Pg) : (bcs f).length = 256 := by simp [bcs]
theorem bcs_get (f : Pg) (j : Nat) (h : j < 256) : (bcs f)[j]? = some (.int .u8 ((f j).toNat : Int)) := by simp [bcs, h]
def ptrP (e : RP) : Value := .pointer (some ⟨e.p, 0, none⟩)

def PAt (w : World) (a : Option Addr) (L : List RP) : Prop := L = [] ∨ ∃ h R, a = some ⟨h, 0, none⟩ ∧ Blk w h 97 (L.map ptrP ++ R)
structure PageAt (w : World) (B : Nat) (e : RP) (f : Pg) : Prop where
  lt : e.i < 4096
  head : Blk w e.p 101 [.int .u32 (256 * (e.i : Int)), .int .u8 ((f 256).toNat : Int), .slice (some ⟨e.q, 0, none⟩) 256 e.c]
  bytes : Blk w e.q 5 (bcs f ++ e.R)
  low : B ≤ e.q
structure RefP (w : World) (B g : Nat) (a : Option Addr) (c : Nat) (L : List RP) (A : As) : Prop where
  gB : B ≤ g
  head : Blk w g 79 [.slice a L.length c]
  row : PAt w a L
  up : (L.map (·.i)).Pairwise (· < ·)
  has : ∀ i, (A i).isSome = true → i ∈ L.map (·.i)
  page : ∀ e, e ∈ L → ∃ f, A e.i = some f ∧ PageAt w B e f
  apart : (L.map (·.q)).Nodup
def RefAt (w : World) (B g : Nat) (A : As) : Prop := ∃ a c L, RefP w B g a c L A

theorem up_len : ∀ (l : List Nat) (m n : Nat), l.Pairwise (· < ·) → (∀ x, x ∈ l → m ≤ x ∧ x < n) → l.length ≤ n - m
  | [], m, n, _, _ => Nat.zero_le _
  | x :: r, m, n, hp, h => by
    have h1 := List.pairwise_cons.1 hp
    have hx := h x (List.mem_cons_self ..)
    have := up_len r (x + 1) n h1.2 (fun y hy => ⟨h1.1 y hy, (h y (List.mem_cons_of_mem _ hy)).2⟩)
    simp only [List.length_cons]
    omega

section
variable {w w' : World} {B g b e n c : Nat} {a : Option Addr} {L : List RP} {A : As}
theorem RefP.len (h : RefP w B g a c L A) : L.length ≤ 4096 := by
  have := up_len (L.map (·.i)) 0 4096 h.up (fun x hx => by
    obtain ⟨e, he, rfl⟩ := List.mem_map.1 hx
    obtain ⟨f, _, hp⟩ := h.page e he
    exact ⟨Nat.zero_le _, hp.lt⟩)
  simpa using this
theorem RefP.cell0 (h : RefP w B g a c L A) : w.cell? ⟨g, 0, none⟩ = some (.slice a L.length c) := by rw [h.head.cell]; rfl
theorem RefP.mem (h : RefP w B g a c L A) {j : Nat} (hj : j < L.length) : L.getD j RP.nought ∈ L := by
  rw [List.getD_eq_getElem?_getD, List.getElem?_eq_getElem hj]
  exact List.getElem_mem hj
theorem RefP.addr (h : RefP w B g a c L A) {j : Nat} (hj : j < L.length) : ∃ k, a = some ⟨k, 0, none⟩ ∧ ∀ i, i < L.length → w.cell? ⟨k, i, none⟩ = some (ptrP (L.getD i RP.nought)) := by
  rcases h.row with rfl | ⟨k, R, rfl, hb⟩
  · exact absurd hj (by simp)
  · refine ⟨k, rfl, fun i hi => ?_⟩
    rw [hb.cell, List.getElem?_append_left (by simpa using hi), List.getElem?_map, List.getD_eq_getElem?_getD, List.getElem?_eq_getElem hi]
    rfl
theorem RefP.three (h : RefP w B g a c L A) {x : RP} (hx : x ∈ L) : ∃ f, A x.i = some f ∧ x.i < 4096 ∧ w.cell? ⟨x.p, 0, none⟩ = some (.int .u32 (256 * (x.i : Int))) ∧ w.cell? ⟨x.p, 1, none⟩ = some (.int .u8 ((f 256).toNat : Int)) ∧
    w.cell? ⟨x.p, 2, none⟩ = some (.slice (some ⟨x.q, 0, none⟩) 256 x.c) ∧ ∀ j, j < 256 → w.cell? ⟨x.q, j, none⟩ = some (.int .u8 ((f j).toNat : Int)) := by
  obtain ⟨f, h1, h2⟩ := h.page x hx
  refine ⟨f, h1, h2.lt, by rw [h2.head.cell]; rfl, by rw [h2.head.cell]; rfl, by rw [h2.head.cell]; rfl, fun j hj => ?_⟩
  rw [h2.bytes.cell, List.getElem?_append_left (by rw [bcs_length]; exact hj), bcs_get f j hj]
/-- What keeps such blocks keeps the space. -/
theorem RefP.same (h : RefP w B g a c L A) (hk : ∀ j t cs, Blk w j t cs → (t = 79 ∨ t = 97 ∨ t = 101 ∨ t = 5) → Blk w' j t cs) : RefP w' B g a c L A :=
  ⟨h.gB, hk _ _ _ h.head (by simp), by
    rcases h.row with h1 | ⟨k, R, h1, h2⟩
    · exact .inl h1
    · exact .inr ⟨k, R, h1, hk _ _ _ h2 (by simp)⟩, h.up, h.has, fun x hx => by
    obtain ⟨f, h1, h2⟩ := h.page x hx
    exact ⟨f, h1, h2.lt, hk _ _ _ h2.head (by simp), hk _ _ _ h2.bytes (by simp), h2.low⟩, h.apart⟩
theorem RefP.below (h : RefP w B g a c L A) (hb : Below w.heap.size w w') : RefP w' B g a c L A := h.same fun j t cs h1 _ => h1.below hb h1.lt
theorem RefP.turn (h : RefP w B g a c L A) (ht : Turn w w' b e) {A2 : As} (hs : SpaceAt w b e n A2) : RefP w' B g a c L A := h.same fun j t cs h1 h2 => ht.keep hs h1 (by rcases h2 with rfl | rfl | rfl | rfl <;> decide)
theorem RefAt.below (h : RefAt w B g A) (hb : Below w.heap.size w w') : RefAt w' B g A := by obtain ⟨a, c, L, h⟩ := h; exact ⟨a, c, L, h.below hb⟩
theorem RefAt.turn (h : RefAt w B g A) (ht : Turn w w' b e) {A2 : As} (hs : SpaceAt w b e n A2) : RefAt w' B g A := by obtain ⟨a, c, L, h⟩ := h; exact ⟨a, c, L, h.turn ht hs⟩
end
/-- The document's space without pages. -/
theorem RefAt.bare {w : World} {B g : Nat} (h : Bare w g) (hB : B ≤ g) : RefAt w B g (fun _ => none) :=
  ⟨none, 0, [], ⟨hB, h, .inl rfl, List.Pairwise.nil, (fun i hi => by cases hi), (fun e he => by cases he), List.Pairwise.nil⟩⟩

/-- Only the document's spaces, and bytes of pages, from B on, have turned. -/
structure RTurn (B : Nat) (w w' : World) : Prop where
  os : w'.os = w.os
  tape : w'.tape = w.tape
  output : w'.output = w.output
  size : w.heap.size ≤ w'.heap.size
  block : ∀ j, j < w.heap.size → (∀ t cs fr, w.heap[j]? = some (.cells cs t fr) → (t = 79 ∨ t = 5) → j < B) → w'.heap[j]? = w.heap[j]?
section
variable {w w' w2 : World} {B g b e n : Nat} {A : As}
theorem RTurn.refl (w : World) (B : Nat) : RTurn B w w := ⟨rfl, rfl, rfl, Nat.le_refl _, fun _ _ _ => rfl⟩
theorem RTurn.ofBelow (h : Below w.heap.size w w') (B : Nat) : RTurn B w w' := ⟨h.os, h.tape, h.output, h.size, fun j hj _ => h.block j hj⟩
theorem RTurn.trans (h : RTurn B w w') (h2 : RTurn B w' w2) : RTurn B w w2 :=
  ⟨h2.os.trans h.os, h2.tape.trans h.tape, h2.output.trans h.output, Nat.le_trans h.size h2.size, fun j hj hc => by
    have h1 := h.block j hj hc
    rw [h2.block j (Nat.lt_of_lt_of_le hj h.size) (fun t cs fr h3 h4 => hc t cs fr (by rw [← h1]; exact h3) h4), h1]⟩
theorem RTurn.below (h : RTurn B w w') (hB : B ≤ w.heap.size) : Below B w w' := ⟨h.os, h.tape, h.output, h.size, fun j hj => h.block j (by omega) (fun _ _ _ _ _ => hj)⟩
theorem RTurn.keep (h : RTurn B w w') {j : Nat} {t : TypeId} {cs : List Value} (hb : Blk w j t cs) (h1 : t ≠ 79) (h2 : t ≠ 5) : Blk w' j t cs := by
  refine hb.same (h.block j hb.lt ?_)
  intro t' cs' fr h3 h4
  unfold Blk at hb
  rw [hb] at h3
  injection h3 with h3
  injection h3 with _ h5 _
  subst h5
  rcases h4 with h4 | h4
  · exact absurd h4 h1
  · exact absurd h4 h2
theorem RTurn.space (h : RTurn B w w') (hs : SpaceAt w b e n A) : SpaceAt w' b e n A := by
  have hm := hs.isMap
  obtain ⟨pg, hs⟩ := hs
  refine ⟨pg, h.keep hs.head (by decide) (by decide), hs.lo, Nat.le_trans hs.hi h.size, hs.map.same (h.block b hs.map.lt ?_), hs.none, fun i p hp => ?_, hs.inj⟩
  · intro t cs fr h1 _
    obtain ⟨es, k, h2⟩ := hm
    rw [h2] at h1
    cases h1
  · obtain ⟨q1, q2, q3, f, q4, q5⟩ := hs.page i p hp
    exact ⟨q1, q2, q3, f, q4, h.keep q5 (by decide) (by decide)⟩
theorem RTurn.ofGrown {cs : List Value} (h : w.grownBy w' (some g)) (hb : Blk w g 79 cs) (hB : B ≤ g) : RTurn B w w' :=
  ⟨h.os, h.tape, h.output, h.size, fun j hj hc => h.block j hj (by
    intro he
    cases he
    unfold Blk at hb
    have := hc _ _ _ hb (.inl rfl)
    omega)⟩
theorem RTurn.setCell {q i : Nat} {cs : List Value} (hb : Blk w q 5 cs) (hB : B ≤ q) (v : Value) : RTurn B w (w.setCell ⟨q, i, none⟩ v) :=
  ⟨rfl, rfl, rfl, by simp, fun j hj hc => Below.heap_setCell w ⟨q, i, none⟩ v j (by
    intro hjq
    have hjq : j = q := hjq
    rw [hjq] at hc
    unfold Blk at hb
    have h9 : q < B := hc _ _ _ hb (.inr rfl)
    omega)⟩
end
end Go.Proofs.YtgdbhmlmioihpaaDoor
end

/- The document's own look-up of a page, and of its perm. -/
section
set_option linter.unusedVariables false
namespace Go.Proofs.YtgdbhmlmioihpaaDoor
open Go.RowKit Go.Maps

set_option maxHeartbeats 2000000 in
set_option maxRecDepth 100000 in
theorem rof_any (B g c : Nat) (a : Option Addr) (L : List RP) (A : As) (x : Nat) (hx : x < 1099511627776) (w : World) (h : RefP w B g a c L A) :
    Calls Tryd.prog 53 #[.pointer (some ⟨g, 0, none⟩), .int .u64 (x : Int)] w fun r w' => ((A (x / 256) = none ∧ r = .returned (.pointer none)) ∨ ∃ e, e ∈ L ∧ e.i = x / 256 ∧ r = .returned (.pointer (some ⟨e.p, 0, none⟩))) ∧ w' = w := by
  have H := Lib.hid h
  have hc := h.cell0
  have HX := Lib.hid hx
  have HLen := Lib.hid h.len
  obtain ⟨N, hN⟩ : ∃ N, N = L.length := ⟨_, rfl⟩
  rw [← hN] at hc
  have HN := Lib.hid hN
  clear h hN hx
  go_enter Tryd.func53, Tryd.ntmps53
  go_wp2_with fail
  go_loopw [5] (fun v wr => ∃ j : Nat, v = .int .i64 j ∧ Hid (j ≤ N ∧ ∀ k, k < j → (L.getD k RP.nought).i ≠ x / 256) ∧ wr = w) (fun v _ => N - (intOf v).toNat)
  case atStart => exact ⟨0, rfl, Lib.hid ⟨Nat.zero_le _, fun k hk => absurd hk (Nat.not_lt_zero _)⟩, rfl⟩
  case round =>
    obtain ⟨j, rfl, HJ, rfl⟩ := hrel
    by_cases hlt : (j : Int) < (N : Int)
    · have hj : j < L.length := by have := HN.out; omega
      obtain ⟨k, rfl, hk⟩ := H.out.addr hj
      obtain ⟨e, he⟩ : ∃ e, L.getD j RP.nought = e := ⟨_, rfl⟩
      have hm : e ∈ L := by rw [← he]; exact H.out.mem hj
      obtain ⟨f, hA, hi, c0, _⟩ := H.out.three hm
      have ck := hk j hj
      rw [he] at ck
      have HE := Lib.hid he
      have HM := Lib.hid hm
      obtain ⟨i, p, q, cc, R⟩ := e
      simp only [ptrP] at ck c0 hi
      obtain ⟨y, hy⟩ : ∃ y : Int, y = 256 * (i : Int) := ⟨_, rfl⟩
      rw [← hy] at c0
      have m1 : IntKind.u64.wrap y = y := by rw [IntKind.wrap_u64]; omega
      have m2 : IntKind.u64.wrap (y + 256) = y + 256 := by rw [IntKind.wrap_u64]; omega
      have m3 : IntKind.i64.wrap ((j : Int) + 1) = (j : Int) + 1 := by rw [IntKind.wrap_i64]; have := HN.out; have := HLen.out; omega
      have HY := Lib.hid hy
      have HJ2 : Hid (j + 1 ≤ N) := Lib.hid (by omega)
      have HS : Hid (i ≠ x / 256 → ∀ k, k < j + 1 → (L.getD k RP.nought).i ≠ x / 256) := Lib.hid fun hne k hk => by
        by_cases hkj : k = j
        · subst hkj
          rw [HE.out]
          exact hne
        · exact HJ.out.2 k (by omega)
      clear hy hk he hm hi hA hj
      by_cases h1 : y ≤ (x : Int)
      · by_cases h2 : (x : Int) < y + 256
        · go_wp2
          go_ret
          exact ⟨.inr ⟨_, HM.out, by have := HY.out; show i = x / 256; omega, rfl⟩, rfl⟩
        · have HS2 := Lib.hid (HS.out (by have := HY.out; omega))
          go_wp2
          go_roundw
          case rel => exact ⟨j + 1, by go_num, Lib.hid ⟨HJ2.out, HS2.out⟩, trivial⟩
          case measure => simp [intOf]; have := HJ2.out; omega
      · have HS2 := Lib.hid (HS.out (by have := HY.out; omega))
        go_wp2
        go_roundw
        case rel => exact ⟨j + 1, by go_num, Lib.hid ⟨HJ2.out, HS2.out⟩, trivial⟩
        case measure => simp [intOf]; have := HJ2.out; omega
    · go_wp2
      go_ret
      refine ⟨.inl ⟨?_, rfl⟩, rfl⟩
      cases hA : A (x / 256) with
      | none => rfl
      | some f =>
        obtain ⟨e, he, hi⟩ := List.mem_map.1 (H.out.has (x / 256) (by rw [hA]; rfl))
        obtain ⟨k, hk, rfl⟩ := List.getElem_of_mem he
        have := HJ.out.2 k (by have := HN.out; omega)
        rw [List.getD_eq_getElem?_getD, List.getElem?_eq_getElem hk] at this
        exact absurd hi this
/-- There is such a page. -/
theorem rof_some (B g c : Nat) (a : Option Addr) (L : List RP) (A : As) (x : Nat) (hx : x < 1099511627776) (f : Pg) (hA : A (x / 256) = some f) (w : World) (h : RefP w B g a c L A) :
    Calls Tryd.prog 53 #[.pointer (some ⟨g, 0, none⟩), .int .u64 (x : Int)] w fun r w' => (∃ e, e ∈ L ∧ e.i = x / 256 ∧ r = .returned (.pointer (some ⟨e.p, 0, none⟩))) ∧ w' = w :=
  (rof_any B g c a L A x hx w h).mono fun r w' ⟨h1, h2⟩ => ⟨h1.resolve_left (by rw [hA]; rintro ⟨h3, _⟩; cases h3), h2⟩
theorem rof_none (B g c : Nat) (a : Option Addr) (L : List RP) (A : As) (x : Nat) (hx : x < 1099511627776) (hA : A (x / 256) = none) (w : World) (h : RefP w B g a c L A) :
    Calls Tryd.prog 53 #[.pointer (some ⟨g, 0, none⟩), .int .u64 (x : Int)] w fun r w' => r = .returned (.pointer none) ∧ w' = w :=
  (rof_any B g c a L A x hx w h).mono fun r w' ⟨h1, h2⟩ => by
    rcases h1 with ⟨_, h1⟩ | ⟨e, h3, h4, _⟩
    · exact ⟨h1, h2⟩
    · obtain ⟨f, h5, _⟩ := h.page e h3
      rw [h4, hA] at h5
      cases h5

set_option maxHeartbeats 1000000 in
theorem rmay_is (x : Int) (h0 : 0 ≤ x) (w : World) : Calls Tryd.prog 52 #[.int .u32 x] w fun e w' => e = .returned (.bool (decide (x < 1048576 ∧ x % 256 = 0))) ∧ w' = w := by
  have ht : x.tmod 256 = x % 256 := Int.tmod_eq_emod_of_nonneg h0
  clear h0
  go_enter Tryd.func52, Tryd.ntmps52
  go_wp2
  all_goals (go_ret; refine ⟨?_, rfl⟩; simp; first | omega | (rw [Bool.eq_iff_iff]; simp; omega))
theorem okAll_not {A : As} {need x n k : Nat} (hk : k < n) (h : okPg A need ((x + k) / 256) = false) : okAll A need x n = false := by
  cases h2 : okAll A need x n
  · rfl
  · rw [okAll_iff] at h2
    rw [h2 k hk] at h
    cases h
theorem bne_met (need : Nat) (f : Pg) (hn : need < 8) : (bits BinOp.and IntKind.u8 ((f 256).toNat : Int) (need : Int) != (need : Int)) = !met need f := by
  rw [bne, bits_met need f hn]
theorem take_snoc {α : Type} (l : List α) (d : α) (k : Nat) (h : k < l.length) : l.take (k + 1) = l.take k ++ [l.getD k d] := by
  rw [List.take_succ_eq_append_getElem h, List.getD_eq_getElem?_getD, List.getElem?_eq_getElem h]
  rfl
theorem okPg_no {A : As} {need i : Nat} (h : A i = none) : okPg A need i = false := by unfold okPg; rw [h]
theorem okPg_is {A : As} {need i : Nat} {f : Pg} (h : A i = some f) : okPg A need i = met need f := by unfold okPg; rw [h]
theorem drewN_drewN {B : Nat} {w0 w : World} (h : Below B w0 w) (n : Nat) : Below B w0 (w.drewN n) := ⟨h.os, h.tape, h.output, h.size, h.block⟩
theorem appU_below {B n : Nat} {t : TypeId} {l : List Value} {v : Value} {w wr w1 : World} {X : Obj} (hb : Below B w wr) (hB : B ≤ wr.heap.size) (hown : wr.ownsRow B t 1 v n l) (hg : (wr.alloc X).grownBy w1 v.ownBlock) : Below B w w1 :=
  (hb.alloc hB X).grown hg (by simp; omega) (fun k hk => (hown.lt k hk).1)
end Go.Proofs.YtgdbhmlmioihpaaDoor
end
