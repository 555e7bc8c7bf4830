/- Some texts of one proof, one behind the other; each has its own head below. -/
import Derived.Test.YtgdbhmlmioihpaaGreatDoorX02
import Derived.Test.YtgdbhmlmioihpaaGreatDoorX35
import Derived.Test.YtgdbhmlmioihpaaGreatDoorX24
import Derived.Test.YtgdbhmlmioihpaaGreatDoorX27
import Derived.Maps.RangeWalk
/- Copy. -/
section
set_option linter.unusedVariables false
namespace Go.Proofs.YtgdbhmlmioihpaaGreatDoor
open Go.RowKit Go.Maps

/-- One page more: a block of its own, and the map's entry. -/
theorem page_more {w w1 : World} {b e n i : Nat} {pg : Nat → Option Nat} {A : As} {f : Pg} (h : SpaceP w b e n pg A) (hi : i < 4096)
    (hm1 : MapIs w1 b (n + 1) (setp pg i (some w.heap.size))) (ht1 : (w.alloc (.cells (pcs f).toArray 95)).mapTurned w1 b) :
    SpaceP w1 b (w.heap.size + 1) (n + 1) (setp pg i (some w.heap.size)) (upd A i (some f)) ∧ (∀ j, j < w.heap.size → j ≠ b → w1.heap[j]? = w.heap[j]?) ∧ w1.heap.size = w.heap.size + 1 := by
  have hb0 := h.map.lt
  have hhi := h.hi
  have hlo := h.lo
  have hbl : Blk w1 w.heap.size 95 (pcs f) := by
    unfold Blk
    rw [ht1.grown.block w.heap.size (by simp) (by intro h; injection h; omega), heap_alloc_new]
  have hold : ∀ j, j < w.heap.size → j ≠ b → w1.heap[j]? = w.heap[j]? := fun j hj hne => by
    rw [ht1.grown.block j (by simp; omega) (by intro h; injection h; omega)]
    exact Below.heap_alloc _ _ _ hj
  have hsz : w1.heap.size = w.heap.size + 1 := by
    obtain ⟨es, clock, es', clock', hbb, rfl⟩ := ht1
    simp [ChangeMaps.setBlock]
  refine ⟨⟨h.head.same (hold _ (by omega) (by omega)), by omega, by omega, hm1, fun k hk => ?_, fun k p hk => ?_, fun k l p hk hl => ?_⟩, hold, hsz⟩
  · unfold setp at hk
    by_cases hki : k = i
    · rw [if_pos hki] at hk; cases hk
    · rw [if_neg hki] at hk
      unfold upd
      rw [if_neg hki]; exact h.none k hk
  · unfold setp at hk
    by_cases hki : k = i
    · rw [if_pos hki] at hk
      cases hk
      refine ⟨by omega, by omega, by omega, f, ?_, hbl⟩
      unfold upd
      rw [if_pos hki]
    · rw [if_neg hki] at hk
      obtain ⟨q1, q2, q3, f, q4, q5⟩ := h.page k p hk
      refine ⟨q1, q2, by omega, f, ?_, q5.same (hold _ (by omega) (by omega))⟩
      unfold upd
      rw [if_neg hki]; exact q4
  · unfold setp at hk hl
    by_cases hki : k = i
    · by_cases hli : l = i
      · omega
      · rw [if_pos hki] at hk
        rw [if_neg hli] at hl
        cases hk
        obtain ⟨q1, q2, q3, _⟩ := h.page l _ hl
        omega
    · by_cases hli : l = i
      · rw [if_neg hki] at hk
        rw [if_pos hli] at hl
        cases hl
        obtain ⟨q1, q2, q3, _⟩ := h.page k _ hk
        omega
      · rw [if_neg hki] at hk
        rw [if_neg hli] at hl
        exact h.inj k l p hk hl

/-- A block that is no cells turns. -/
theorem SpaceP.walk {w w' : World} {b e n r : Nat} {pg : Nat → Option Nat} {A : As} (h : SpaceP w b e n pg A) (hg : w.grownBy w' (some r)) (hr : ∃ o, w.heap[r]? = some o ∧ o.isCells = false) (hrb : r ≠ b) : SpaceP w' b e n pg A := by
  obtain ⟨o, ho, hc⟩ := hr
  have hne : ∀ g t cs, Blk w g t cs → g ≠ r := fun g t cs hb he => by
    subst he
    unfold Blk at hb
    rw [ho] at hb
    cases hb
    cases hc
  exact ⟨h.head.grown hg (by intro he; cases he; exact hne _ _ _ h.head rfl), h.lo, Nat.le_trans h.hi hg.size, h.map.same (hg.block b h.map.lt (by intro he; cases he; exact hrb rfl)), h.none,
    fun i p hp => by
      obtain ⟨h1, h2, h3, f, h4, h5⟩ := h.page i p hp
      exact ⟨h1, h2, h3, f, h4, h5.grown hg (by intro he; cases he; exact hne _ _ _ h5 rfl)⟩, h.inj⟩

theorem ranges_same {w w' : World} {b r n : Nat} {D : DataW Unit} {left : Lit → Bool} {cnt : Nat} (h : w.ranges Tryz.prog 23 ptrR b r n D left cnt) (hb : w'.heap[b]? = w.heap[b]?) (hr : w'.heap[r]? = w.heap[r]?) :
    w'.ranges Tryz.prog 23 ptrR b r n D left cnt := by
  obtain ⟨es, clock, since, seen, c0, h1, F, hs, hD, h2, rest⟩ := h
  exact ⟨es, clock, since, seen, c0, hb.trans h1, F, hs, hD, hr.trans h2, rest⟩
theorem ranges_iter {w : World} {b r n : Nat} {D : DataW Unit} {left : Lit → Bool} {cnt : Nat} (h : w.ranges Tryz.prog 23 ptrR b r n D left cnt) : ∃ o, w.heap[r]? = some o ∧ o.isCells = false := by
  obtain ⟨es, clock, since, seen, c0, h1, F, hs, hD, h2, rest⟩ := h
  exact ⟨_, h2, rfl⟩
theorem ranges_lt {w : World} {b r n : Nat} {D : DataW Unit} {left : Lit → Bool} {cnt : Nat} (h : w.ranges Tryz.prog 23 ptrR b r n D left cnt) : r < w.heap.size := by
  obtain ⟨es, clock, since, seen, c0, h1, F, hs, hD, h2, rest⟩ := h
  exact (Array.getElem?_eq_some_iff.1 h2).1

/-- What the copy has, some keys being left. -/
def part (A : As) (left : Lit → Bool) : As := fun i => if left (.int .u32 (256 * (i : Int))) then none else A i
theorem part_all (A : As) (left : Lit → Bool) (h : ∀ kl, left kl = false) : part A left = A := by
  funext i; unfold part; rw [h]; rfl
theorem part_more (A : As) (left : Lit → Bool) (i : Nat) (f : Pg) (h : A i = some f) : upd (part A left) i (some f) = part A (fun z => left z && !z.sameKey (.int .u32 (256 * (i : Int)))) := by
  funext j
  unfold upd part
  by_cases hj : j = i
  · subst hj; simp [Lit.sameKey, h]
  · have : ((Lit.int IntKind.u32 (256 * (j : Int))).sameKey (.int .u32 (256 * (i : Int)))) = false := by simp [Lit.sameKey]; omega
    rw [if_neg hj]
    show _ = if (left _ && !((Lit.int IntKind.u32 (256 * (j : Int))).sameKey (.int .u32 (256 * (i : Int))))) = true then none else A j
    rw [this]
    simp

theorem info_page : (Tryz.prog.info? 95).map (·.size) = some 257 := by kernel_rfl
theorem zero_size : Tryz.zeroCells95.size = 257 := by kernel_rfl

set_option maxHeartbeats 4000000 in
set_option maxRecDepth 1000000 in
theorem copy_any (b e n : Nat) (hn : n < 1099511627776) (A : As) (w : World) (h : SpaceAt w b e n A) :
    Calls Tryz.prog 14 #[.pointer (some ⟨b + 1, 0, none⟩)] w fun r w' => r = .returned (.pointer (some ⟨w.heap.size + 1, 0, none⟩)) ∧ (∃ e2, SpaceAt w' w.heap.size e2 n A) ∧ Below w.heap.size w w' := by
  obtain ⟨pg, h⟩ := h
  have HP := Lib.hid h
  have HN := Lib.hid hn
  obtain ⟨D0, hown, hD⟩ := h.map
  have HD := Lib.hid hD
  have hbw := h.map.lt
  have HBW := Lib.hid hbw
  have HO := Lib.hid hown
  have c := h.cell
  have hcl : b + 1 < w.heap.size := by have := h.lo; have := h.hi; omega
  have HC := Lib.hid hcl
  have HF : Hid (∀ x : Int, 0 ≤ x → x < 4294967296 → ∀ v y, ptrR v = some y → (∀ zd, D0.atKey (.int .u32 x) zd = y.1) → ∃ i p f, x = 256 * ((i : Nat) : Int) ∧ i < 4096 ∧ v = .pointer (some ⟨p, 0, none⟩) ∧ A i = some f ∧ p < w.heap.size ∧ Blk w p 95 (pcs f)) := Lib.hid fun x h0 h1 v y hv hat => by
    have hh := has_true_of_atKey hat
    rw [(hD x h0 h1).2] at hh
    unfold pgk at hh
    split at hh
    · rename_i hx
      obtain ⟨p, hp⟩ := Option.isSome_iff_exists.1 hh
      obtain ⟨q1, q2, q3, f, q4, q5⟩ := h.page _ p hp
      have e1 := (hD x h0 h1).1
      rw [hat] at e1
      have e2 : pgk pg x = some p := by unfold pgk; rw [if_pos hx, hp]
      rw [e2] at e1
      obtain ⟨y1, y2⟩ := y
      simp only at e1
      rw [e1] at hv
      have := ptrR_inv hv
      exact ⟨_, p, f, by omega, q1, this, q4, by have := h.hi; omega, q5⟩
    · cases hh
  have HStart : Hid (part A (Maps.has D0) = fun _ => none) := Lib.hid (by
    funext i
    unfold part
    by_cases hi : i < 4096
    · rw [(hD _ (by omega) (by omega)).2, pgk_at]
      cases hp : pg i with
      | none => rw [if_neg (by simp)]; exact h.none i hp
      | some p => rw [if_pos (by simp)]
    · rw [h.none i (h.big i (by omega))]; simp)
  clear h hn hown hD hbw hcl
  go_enter Tryz.func14, Tryz.ntmps14
  go_wp2_with (first
    | (go_at_call 24; refine (new_any _).mono ?_; rintro r w1 ⟨rfl, hsp, hb1, hs1⟩; have c1 := (hb1.cell (p := ⟨b + 1, 0, none⟩) HC.out).trans c; have HSP := Lib.hid hsp; have HB1 := Lib.hid hb1; have HS1 := Lib.hid hs1; clear hsp hb1 hs1)
    | (at_range; refine wpList_range_own _ rfl _ 90 rfl 23 93 keyed Tryz.underlying90 ptrR b n D0 rfl (by obtain ⟨es, clock, hb, F, hs, hD⟩ := HO.out; exact ⟨es, clock, (HB1.out.block b HBW.out).trans hb, F, hs, hD⟩) ?_; intro w0 hrg0 hg0 hs0)
    | go_in)
  go_frame
  have HR0 := Lib.hid hrg0
  have HG0 := Lib.hid hg0
  have HS0 := Lib.hid hs0
  clear hrg0 hg0 hs0
  obtain ⟨r, hr⟩ : ∃ r, r = w1.heap.size := ⟨_, rfl⟩
  rw [← hr] at HR0 ⊢
  have HR : Hid (r = w.heap.size + 2) := Lib.hid (by have := HS1.out; omega)
  have HRR := Lib.hid hr
  clear hr
  go_loopw [4, 5, 6] (fun _ _ _ wr => ∃ (left : Lit → Bool) (cnt m : Nat), Hid (wr.ranges Tryz.prog 23 ptrR b r n D0 left cnt) ∧ Hid (m + cnt ≤ n) ∧ Hid (∃ e2, SpaceAt wr w.heap.size e2 m (part A left)) ∧ Hid (Below w.heap.size w wr))
    (fun _ _ _ wr => wr.rangeLeft b r)
  case atStart =>
    refine ⟨_, _, 0, HR0, Lib.hid (by have := HO.out.size_le; omega), Lib.hid ⟨w.heap.size + 2, ?_⟩, Lib.hid ?_⟩
    · rw [HStart.out]
      exact HSP.out.same HG0.out.size (fun j _ hj => HG0.out.block j (by have := HS1.out; omega) (by simp))
    · exact HB1.out.grown HG0.out (by have := HS1.out; omega) (fun k e => by cases e)
  case round =>
    obtain ⟨left, cnt, m, HRg, HM, HSp, HBl⟩ := hrel
    go_wp2_with (first
      | (at_next; refine wpList_next_ranges _ rfl _ rfl 23 keyed ptrR (Value.int .u32) id (fun key kl hk => by obtain ⟨x, hx, _⟩ := keyOf_u32 hk; exact ⟨x, hx⟩) (fun v _ _ => ⟨v, rfl⟩) b r n _ _ _ rfl HRg.out ?_ ?_)
      | go_in)
    · intro hc0 hl0
      go_wp2
      go_ret
      refine ⟨rfl, ?_, HBl.out⟩
      obtain ⟨e2, h2⟩ := HSp.out
      rw [part_all A left hl0] at h2
      obtain ⟨pg2, h2⟩ := h2
      exact ⟨e2, pg2, h2.head, h2.lo, h2.hi, h2.map.mono (by have := HM.out; omega), h2.none, h2.page, h2.inj⟩
    · intro x cv kl yd yp w2 cnt2 hkey hlk hv hat hrg2 hlt hg2 hs2 hen
      obtain ⟨x', ex, rfl, hx0, hx1⟩ := keyOf_u32 hkey
      obtain rfl : x = x' := by simpa using ex
      obtain ⟨i, p, f, hxi, hi, hcv, hA, hpl, hblk⟩ := HF.out x hx0 hx1 _ _ hv hat
      have hcv' : cv = .pointer (some ⟨p, 0, none⟩) := hcv
      subst hcv'
      obtain ⟨e2, pg2, hsp⟩ := HSp.out
      have hsp2 : SpaceP w2 w.heap.size e2 m pg2 (part A left) := hsp.walk hg2 (ranges_iter HRg.out) (by have := HR.out; omega)
      have hB2 : Below w.heap.size w w2 := HBl.out.grown hg2 HBl.out.size (fun k e => by cases e; have := HR.out; omega)
      have hblk2 : Blk w2 p 95 (pcs f) := hblk.below hB2 hpl
      have c2 : (w2.alloc (.cells (pcs f).toArray 95)).cell? ⟨w.heap.size + 1, 0, none⟩ = some (.map (some w.heap.size)) := (hsp2.head.alloc _).cell 0
      have HX := Lib.hid (And.intro hxi (And.intro hi (And.intro hA (And.intro hx0 hx1))))
      have HW2 := Lib.hid (And.intro hlk (And.intro hrg2 (And.intro hlt (And.intro hsp2 hB2))))
      have KS : (storeCells ⟨w2.heap.size, 0, none⟩ (pcs f) 0).run Tryz.prog (w2.alloc (.cells Tryz.zeroCells95 95)) = .ok () (w2.alloc (.cells (pcs f).toArray 95)) := by
        have h := run_storeCells_new (P := Tryz.prog) w2 95 Tryz.zeroCells95 (pcs f).toArray (by rw [List.size_toArray, pcs_length]; exact info_page) (zero_size.trans (by rw [List.size_toArray, pcs_length])) (by rw [Array.all_eq_true']; intro v hv; exact pcs_one f v (by simpa using hv))
        simpa using h
      clear hxi hi hcv hA hx0 hx1 hpl hblk hlk hrg2 hlt hsp2 hB2 hg2 hs2 hsp hkey ex hv hat
      go_wp2_with (first
        | (refine wpList_load_row rfl 95 (.tmp 21) rfl p rfl 95 (pcs f).toArray (0, 0) _ hblk2 Tryz.underlying95 rfl (by rw [List.size_toArray, pcs_length]; exact info_page) ?_)
        | (at_mapUpdate; refine wpList_put rfl _ _ _ rfl w.heap.size m i w2.heap.size pg2 rfl (HW2.out.2.2.2.1.map.same (Below.heap_alloc _ _ _ HW2.out.2.2.2.1.map.lt)) (by have := HN.out; have := HM.out; unfold maxLen; omega) x rfl HX.out.1 (by have := HX.out.2.1; omega) rfl ?_; intro w3 hm3 ht3)
        | go_in)
      obtain ⟨hp3, hold3, hsz3⟩ := page_more HW2.out.2.2.2.1 HX.out.2.1 hm3 ht3
      have hb3 : Below w.heap.size w w3 := ((HW2.out.2.2.2.2.alloc HW2.out.2.2.2.2.size _).grown ht3.grown (by simp; have := HW2.out.2.2.2.2.size; omega) (fun k e => by cases e; exact Nat.le_refl _))
      have hr3 := ranges_same HW2.out.2.1 (hold3 b (by have := HBW.out; have := HW2.out.2.2.2.2.size; omega) (by have := HBW.out; omega)) (hold3 r (ranges_lt HW2.out.2.1) (by have := HR.out; omega))
      rw [part_more A left i f HX.out.2.2.1, ← HX.out.1] at hp3
      simp only [Act.put]
      go_roundw
      case rel =>
        exact ⟨_, cnt2, m + 1, Lib.hid hr3, Lib.hid (by have := HM.out; have := HW2.out.2.2.1; omega), Lib.hid ⟨_, _, hp3⟩, Lib.hid hb3⟩
      case measure => rw [hr3.left_eq, HRg.out.left_eq]; exact HW2.out.2.2.1
end Go.Proofs.YtgdbhmlmioihpaaGreatDoor
end

/- A cpu is copied. -/
section
set_option linter.unusedVariables false
namespace Go.Proofs.YtgdbhmlmioihpaaGreatDoor
open Go Go.RowKit Go.Maps

theorem info_cpu : (Tryz.prog.info? 89).map (·.size) = some 17 := by kernel_rfl
theorem rcs_one (c : Cp) : (rcs c).toArray.all (·.oneCell') = true := by
  rw [Array.all_eq_true']
  intro v hv
  exact ccs_one c v (show v ∈ rcs c by simpa using hv)
set_option maxHeartbeats 2000000 in
set_option maxRecDepth 100000 in
theorem copyOK : CopyOK := by
  intro w p c h
  have hb : Blk w p 89 (rcs c) := h
  obtain ⟨C, hC⟩ : ∃ C, C = rcs c := ⟨_, rfl⟩
  have hl : C.length = 17 := by rw [hC, rcs_length]
  have h1 : C.toArray.all (·.oneCell') = true := by rw [hC]; exact rcs_one c
  have KS : (storeCells ⟨w.heap.size, 0, none⟩ C 0).run Tryz.prog (w.alloc (.cells #[.int .u32 0, .int .u32 0, .int .u32 0, .int .u32 0, .int .u32 0, .int .u32 0, .int .u32 0, .int .u32 0, .int .u32 0, .int .u32 0, .int .u32 0, .int .u32 0, .int .u32 0, .int .u32 0, .int .u32 0, .int .u32 0, .int .u32 0] 89)) = .ok () (w.alloc (.cells C.toArray 89)) := by
    have h := run_storeCells_new (P := Tryz.prog) w 89 #[.int .u32 0, .int .u32 0, .int .u32 0, .int .u32 0, .int .u32 0, .int .u32 0, .int .u32 0, .int .u32 0, .int .u32 0, .int .u32 0, .int .u32 0, .int .u32 0, .int .u32 0, .int .u32 0, .int .u32 0, .int .u32 0, .int .u32 0] C.toArray (by rw [List.size_toArray, hl]; exact info_cpu) (by simp [hl]) h1
    simpa using h
  have HN : Hid (CAt (w.alloc (.cells C.toArray 89)) w.heap.size c) := Lib.hid (by
    show Blk _ _ 89 (rcs c)
    rw [← hC]; exact Blk.new w 89 C)
  rw [← hC] at hb
  have HB := Lib.hid hb
  have HI : Hid ((Tryz.prog.info? 89).map (·.size) = some C.toArray.size) := Lib.hid (by rw [List.size_toArray, hl]; exact info_cpu)
  clear hC hb h h1
  go_enter Tryz.func13, Tryz.ntmps13
  go_wp2_with (first
    | (refine wpList_load_row rfl 89 (.tmp 7) rfl p rfl 89 C.toArray (0, 0) _ HB.out Tryz.underlying89 rfl HI.out ?_))
  go_ret
  exact ⟨⟨_, Nat.le_refl _, rfl, HN.out⟩, (Below.refl _ _).alloc (Nat.le_refl _) _⟩
end Go.Proofs.YtgdbhmlmioihpaaGreatDoor
end
