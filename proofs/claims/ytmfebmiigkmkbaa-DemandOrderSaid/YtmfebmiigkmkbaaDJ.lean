/- The gatherer in memory; its port. -/
import Derived.Test.YtmfebmiigkmkbaaDF
import Derived.Test.YtmfebmiigkmkbaaDI
set_option linter.unusedVariables false
set_option linter.unusedSimpArgs false
namespace Go.Proofs.Ytmfebmiigkmkbaa
open Go Go.RowKit Oj Dm

theorem flat_take {α : Type} (f : α → List Value) (d : α) (l : List α) : ∀ n, n ≤ l.length → flat (fun j => f (l.getD j d)) n = (l.take n).flatMap f
  | 0, _ => by simp [flat]
  | n + 1, h => by
    rw [flat, flat_take f d l n (by omega), List.take_succ_eq_append_getElem (by omega), List.flatMap_append, List.getD_eq_getElem?_getD, List.getElem?_eq_getElem (by omega)]
    simp
theorem flat_all' {α : Type} (f : α → List Value) (d : α) (l : List α) : flat (fun j => f (l.getD j d)) l.length = l.flatMap f := by
  rw [flat_take f d l _ (Nat.le_refl _), List.take_of_length_le (Nat.le_refl _)]
theorem fm_len {α : Type} {f : α → List Value} {z : Nat} (hf : ∀ x, (f x).length = z) : ∀ l : List α, (l.flatMap f).length = l.length * z
  | [] => by simp
  | a :: r => by rw [List.flatMap_cons, List.length_append, fm_len hf r, hf, List.length_cons, Nat.succ_mul]; omega
theorem fm_take {α : Type} {f : α → List Value} {z : Nat} (hf : ∀ x, (f x).length = z) (l : List α) (k : Nat) (hk : k ≤ l.length) : (l.flatMap f).take (k * z) = (l.take k).flatMap f ∧ (l.flatMap f).drop (k * z) = (l.drop k).flatMap f := by
  have e : (l.take k).flatMap f ++ (l.drop k).flatMap f = l.flatMap f := by rw [← List.flatMap_append, List.take_append_drop]
  have hl : ((l.take k).flatMap f).length = k * z := by rw [fm_len hf, List.length_take, Nat.min_eq_left hk]
  rw [← e]
  exact ⟨by rw [List.take_append_of_le_length (by omega), List.take_of_length_le (by omega)], by rw [List.drop_append_of_le_length (by omega), List.drop_of_length_le (by omega), List.nil_append]⟩
theorem fm_put {α : Type} {f : α → List Value} {z : Nat} (hf : ∀ x, (f x).length = z) (l : List α) (k : Nat) (hk : k ≤ l.length) (x : α) : (l.flatMap f).take (k * z) ++ (f x ++ (l.flatMap f).drop (k * z)) = (l.take k ++ x :: l.drop k).flatMap f := by
  rw [(fm_take hf l k hk).1, (fm_take hf l k hk).2, List.flatMap_append, List.flatMap_cons]
theorem pt_len (p : Int) : (ptCells p).length = 1 := rfl
theorem xt_len (x : Xt) : (xtCells x).length = 2 := rfl
theorem pts_one (l : List Int) : ∀ u ∈ l.flatMap ptCells, u.oneCell' = true := by
  intro u hu
  obtain ⟨p, _, hp⟩ := List.mem_flatMap.1 hu
  simp only [ptCells, List.mem_singleton] at hp
  rw [hp]; rfl
theorem xts_one (l : List Xt) : ∀ u ∈ l.flatMap xtCells, u.oneCell' = true := by
  intro u hu
  obtain ⟨p, _, hp⟩ := List.mem_flatMap.1 hu
  simp only [xtCells, List.mem_cons, List.not_mem_nil, or_false] at hp
  rcases hp with rfl | rfl <;> rfl
/-- Own rows of extents, of ports. -/
def OwnX (w : World) (B : Nat) (v : Value) (l : List Xt) : Prop := w.ownsRow B 50 2 v l.length (l.flatMap xtCells)
def OwnP (w : World) (B : Nat) (v : Value) (l : List Int) : Prop := w.ownsRow B 51 1 v l.length (l.flatMap ptCells)
theorem OwnX.at {w : World} {B : Nat} {v : Value} {l : List Xt} (h : OwnX w B v l) : XtsAt w v l := slC_of_row (fun j _ => rfl) (by rw [flat_all' xtCells]; exact h)
theorem OwnP.at {w : World} {B : Nat} {v : Value} {l : List Int} (h : OwnP w B v l) : PtsAt w v l := slC_of_row (fun j _ => rfl) (by rw [flat_all' ptCells]; exact h)

/-- Below B, all but block p is as it was. -/
structure Keep (B p : Nat) (w w' : World) : Prop where
  os : w'.os = w.os
  tape : w'.tape = w.tape
  output : w'.output = w.output
  size : w.heap.size ≤ w'.heap.size
  block : ∀ k, k < B → k ≠ p → w'.heap[k]? = w.heap[k]?
theorem Keep.refl (B p : Nat) (w : World) : Keep B p w w := ⟨rfl, rfl, rfl, Nat.le_refl _, fun _ _ _ => rfl⟩
theorem Keep.trans {B p : Nat} {a b c : World} (h : Keep B p a b) (h2 : Keep B p b c) : Keep B p a c :=
  ⟨h2.os.trans h.os, h2.tape.trans h.tape, h2.output.trans h.output, Nat.le_trans h.size h2.size, fun k hk hne => (h2.block k hk hne).trans (h.block k hk hne)⟩
theorem Keep.of_below {B p : Nat} {a b : World} (h : Below a.heap.size a b) (hB : B ≤ a.heap.size) : Keep B p a b := ⟨h.os, h.tape, h.output, h.size, fun k hk _ => h.block k (by omega)⟩
theorem Keep.of_grown {B p : Nat} {a b : World} {row : Option Nat} (h : a.grownBy b row) (hr : ∀ k, row = some k → B ≤ k ∨ k = p) (hB : B ≤ a.heap.size) : Keep B p a b :=
  ⟨h.os, h.tape, h.output, h.size, fun k hk hne => h.block k (by omega) (fun he => by rcases hr k he.symm with h1 | h1 <;> omega)⟩
theorem Keep.below {B p B0 : Nat} {a b : World} (h : Keep B p a b) (h0 : B0 ≤ B) (h1 : B0 ≤ p) : Below B0 a b := ⟨h.os, h.tape, h.output, h.size, fun k hk => h.block k (by omega) (by omega)⟩
theorem Keep.blk {B p g : Nat} {a b : World} {t : TypeId} {cs : List Value} (h : Keep B p a b) (hb : Blk a g t cs) (hg : g < B) (hne : g ≠ p) : Blk b g t cs := (h.block g hg hne).trans hb

/-- The gatherer at p, its rows from B on. -/
structure GA (w : World) (B p : Nat) (m : Mf) (vx vp : Value) : Prop where
  blk : Blk w p 66 [.int .u32 m.pages, vx, vp, .bool m.con]
  x : OwnX w B vx m.ext
  t : OwnP w B vp m.ports
  lt : p < B
theorem row_sl {w : World} {B : Nat} {e : TypeId} {z : Nat} {v : Value} {n : Nat} {xs : List Value} (h : w.ownsRow B e z v n xs) : ∃ a c, v = .slice a n c := by
  rcases h.2 with ⟨rfl, rfl⟩ | ⟨g, cap, cur, rfl, _⟩
  · exact ⟨_, _, rfl⟩
  · exact ⟨_, _, rfl⟩
theorem row_ne {w : World} {B p : Nat} {e : TypeId} {z : Nat} {v : Value} {n : Nat} {xs : List Value} (h : w.ownsRow B e z v n xs) (hp : p < B) : v.ownBlock ≠ some p := fun he => by have := (World.ownsRow.lt h p he).1; omega
theorem row_or {w : World} {B p : Nat} {e : TypeId} {z : Nat} {v : Value} {n : Nat} {xs : List Value} (h : w.ownsRow B e z v n xs) (hp : p < B) : v.ownBlock = none ∨ v.ownBlock ≠ some p := .inr (row_ne h hp)
theorem GA.below {w w' : World} {B p : Nat} {m : Mf} {vx vp : Value} (h : GA w B p m vx vp) (hb : Below w.heap.size w w') : GA w' B p m vx vp := ⟨h.blk.call hb, row_below h.x hb, row_below h.t hb, h.lt⟩
/-- A field written. -/
theorem GA.ports {w w' : World} {B p : Nat} {m : Mf} {vx vp vp' : Value} {l : List Int} (h : GA w B p m vx vp) (h2 : OwnP w' B vp' l) (hg : w.grownBy w' vp.ownBlock) : GA (w'.setCell ⟨p, 2, none⟩ vp') B p { m with ports := l } vx vp' := by
  have hb : Blk w' p 66 [.int .u32 m.pages, vx, vp, .bool m.con] := h.blk.grown hg (fun he => row_ne h.t h.lt he.symm)
  have hx : OwnX w' B vx m.ext := World.ownsRow.kept h.x hg (row_apart h.x h.t (by decide))
  exact ⟨hb.set_ 2 vp', World.ownsRow.kept hx (grown_set w' p 2 vp') (row_or hx h.lt), World.ownsRow.kept h2 (grown_set w' p 2 vp') (row_or h2 h.lt), h.lt⟩
theorem GA.exts {w w' : World} {B p : Nat} {m : Mf} {vx vp vx' : Value} {l : List Xt} (h : GA w B p m vx vp) (h2 : OwnX w' B vx' l) (hg : w.grownBy w' vx.ownBlock) : GA (w'.setCell ⟨p, 1, none⟩ vx') B p { m with ext := l } vx' vp := by
  have hb : Blk w' p 66 [.int .u32 m.pages, vx, vp, .bool m.con] := h.blk.grown hg (fun he => row_ne h.x h.lt he.symm)
  have ht : OwnP w' B vp m.ports := World.ownsRow.kept h.t hg (row_apart h.t h.x (by decide))
  exact ⟨hb.set_ 1 vx', World.ownsRow.kept h2 (grown_set w' p 1 vx') (row_or h2 h.lt), World.ownsRow.kept ht (grown_set w' p 1 vx') (row_or ht h.lt), h.lt⟩
theorem keep_row {w w' : World} {B p : Nat} {e : TypeId} {z : Nat} {v : Value} {n : Nat} {xs : List Value} (h : w.ownsRow B e z v n xs) (hg : w.grownBy w' v.ownBlock) (hB : B ≤ w.heap.size) : Keep B p w w' := Keep.of_grown hg (fun k hk => .inl (World.ownsRow.lt h k hk).1) hB
theorem keep_set {w : World} {B p : Nat} (hB : B ≤ w.heap.size) (i : Nat) (u : Value) : Keep B p w (w.setCell ⟨p, i, none⟩ u) := Keep.of_grown (grown_set w p i u) (fun k hk => .inr (by cases hk; rfl)) hB

/-- What a gatherer's method answers. -/
def GPost (w : World) (B p : Nat) (m : Mf) (e : Ending) (w' : World) : Prop := e = .returned (.tuple #[]) ∧ ∃ vx vp, GA w' B p m vx vp ∧ Keep B p w w'
set_option maxHeartbeats 8000000 in
set_option maxRecDepth 100000 in
theorem gport_any (B p : Nat) (m : Mf) (vx vp : Value) (q : Int) (hq0 : 0 ≤ q) (hq1 : q < 65536) (w : World) (hG : GA w B p m vx vp) (hB : B ≤ w.heap.size) (hU : Up id m.ports) (hl : m.ports.length ≤ 1048575) :
    Calls Try.prog 47 #[.pointer (some ⟨p, 0, none⟩), .int .u16 q] w (GPost w B p { m with ports := insP q m.ports }) := by
  obtain ⟨a, c, hvp⟩ := row_sl hG.t
  subst hvp
  obtain ⟨n, hn⟩ : ∃ n, n = m.ports.length := ⟨_, rfl⟩
  have HS := Lib.hid (search_any _ m.ports q w hG.t.at (by omega) hU)
  rw [← hn] at hG HS
  have HG := Lib.hid hG
  have HN := Lib.hid hn
  have hni : n ≤ 1048575 := by omega
  have c2 : w.cell? ⟨p, 2, none⟩ = some (.slice a n c) := hG.blk.cell 2
  have HBB := Lib.hid hB
  clear hG hn hl hU hB
  go_enter Try.func47, Try.ntmps47
  go_wp2_with fail
  refine HS.out.mono ?_; rintro e w' ⟨k, hSp, rfl, rfl⟩
  have hkn : k ≤ n := by rw [HN.out]; exact hSp.1
  have HP : Hid (insP q m.ports = if k < m.ports.length ∧ m.ports.getD k 0 = q then m.ports else m.ports.take k ++ q :: m.ports.drop k) := Lib.hid (insP_at q m.ports k hSp.1 hSp.2.1 (fun h => Int.not_lt.2 (hSp.2.2 h)))
  obtain ⟨b, hb⟩ : ∃ b, b = spotB id (0 : Int) m.ports q k := ⟨_, rfl⟩
  have HBq := Lib.hid hb
  unfold spotV
  rw [← hb]
  clear hb hSp HS
  cases b with
  | true =>
    have hE : insP q m.ports = m.ports := by rw [HP.out, if_pos (show k < m.ports.length ∧ m.ports.getD k 0 = q from of_decide_eq_true HBq.out.symm)]
    have HE := Lib.hid hE
    clear hE
    go_wp2_with fail
    go_end0
    exact ⟨rfl, _, _, by rw [HE.out]; exact HG.out, Keep.refl _ _ _⟩
  | false =>
    have hE : insP q m.ports = m.ports.take k ++ q :: m.ports.drop k := by rw [HP.out, if_neg (show ¬(k < m.ports.length ∧ m.ports.getD k 0 = q) from of_decide_eq_false HBq.out.symm)]
    have HE := Lib.hid hE
    clear hE HP
    have HGa := Lib.hid (HG.out.below (below_new1 w (.cells #[.int .u16 q] 51)))
    have hI := insP_any B (.slice a n c) n k w.heap.size (m.ports.flatMap ptCells) [.int .u16 q] (w.alloc (.cells #[.int .u16 q] 51)) (by have := HGa.out.t; unfold OwnP at this; rw [← HN.out] at this; exact this) hkn (by omega) (Blk.new w 51 [.int .u16 q]) rfl
      (fun he => by have := (World.ownsRow.lt HG.out.t _ he).2; omega) (pts_one _) (fun u hu => by rw [List.mem_singleton] at hu; rw [hu]; rfl) (Nat.le_trans HBB.out (by simp))
    have HI := Lib.hid hI
    clear hI
    go_wp2_with fail
    refine HI.out.mono ?_; rintro e w2 ⟨v', rfl, hO, hgr⟩
    have HO : Hid (OwnP w2 B v' (insP q m.ports)) := Lib.hid (by
      rw [HE.out]
      unfold OwnP
      have h5 := fm_put pt_len m.ports k (by rw [← HN.out]; exact hkn) q
      rw [Nat.mul_one] at h5
      rw [← h5, List.length_append, List.length_cons, List.length_take, List.length_drop, ← HN.out, show min k n + (n - k + 1) = n + 1 by omega]
      exact hO)
    have HF : Hid (GA (w2.setCell ⟨p, 2, none⟩ v') B p { m with ports := insP q m.ports } vx v') := Lib.hid (HGa.out.ports HO.out hgr)
    have HK : Hid (Keep B p w (w2.setCell ⟨p, 2, none⟩ v')) := Lib.hid ((Keep.of_below (below_new1 w _) HBB.out).trans ((keep_row HGa.out.t hgr (Nat.le_trans HBB.out (by simp))).trans (keep_set (Nat.le_trans HBB.out (Nat.le_trans (by simp) hgr.size)) 2 v')))
    have hb2 : Blk w2 p 66 [.int .u32 m.pages, vx, .slice a n c, .bool m.con] := HGa.out.blk.grown hgr (fun he => row_ne HGa.out.t HGa.out.lt he.symm)
    have d2 : w2.cell? ⟨p, 2, none⟩ = some (.slice a n c) := hb2.cell 2
    have g2 : w2.frozen? ⟨p, 2, none⟩ = false := hb2.frozen 2
    have p2 : p < w2.heap.size := hb2.lt
    obtain ⟨a', c', rfl⟩ := row_sl hO
    clear hO hgr hb2 HGa HI
    go_wp2_with fail
    go_end0
    exact ⟨rfl, _, _, HF.out, HK.out⟩
end Go.Proofs.Ytmfebmiigkmkbaa
