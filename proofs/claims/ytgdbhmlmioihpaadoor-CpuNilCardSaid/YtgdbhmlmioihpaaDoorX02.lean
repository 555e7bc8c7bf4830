/- Some texts of one proof, one behind the other; each has its own head below. -/
import Derived.Test.YtgdbhmlmioihpaaDoorX01
import Derived.Lib.IndexBytes
/- Map, Unmap, Perm. -/
section
set_option linter.unusedVariables false
namespace Go.Proofs.YtgdbhmlmioihpaaDoor
open Go.RowKit Go.Maps

def mapE (A : As) (x perm : Nat) : Int := if ¬ (x < 1048576 ∧ x % 256 = 0) ∨ 7 < perm then 2 else if (A (x / 256)).isSome then 9 else 0
def mapA (A : As) (x perm : Nat) : As := if mapE A x perm = 0 then upd A (x / 256) (some (newPg perm)) else A
def unmapE (A : As) (x : Nat) : Int := if ¬ (x < 1048576 ∧ x % 256 = 0) then 2 else if (A (x / 256)).isSome then 0 else 3
def unmapA (A : As) (x : Nat) : As := if unmapE A x = 0 then upd A (x / 256) none else A
def permV (A : As) (x : Nat) : Nat := match A (x / 256) with | some f => (f 256).toNat | none => 0

def newCells (v : Value) : List Value := List.replicate 256 (Value.int .u8 0) ++ [v]
theorem rep_get (n j : Nat) (z v : Value) : (List.replicate n z ++ [v])[j]? = if j < n then some z else if j = n then some v else none := by
  by_cases hj : j < n
  · rw [List.getElem?_append_left (by simpa using hj), List.getElem?_replicate, if_pos hj, if_pos hj]
  · rw [if_neg hj, List.getElem?_append_right (by simpa using hj), List.length_replicate]
    by_cases h2 : j = n
    · subst h2; rw [if_pos rfl, Nat.sub_self]; rfl
    · rw [if_neg h2, List.getElem?_eq_none (by simp; omega)]
theorem newCells_eq (perm : Nat) (h : perm < 256) : newCells (.int .u8 (perm : Int)) = pcs (newPg perm) := by
  apply List.ext_getElem?
  intro j
  unfold newCells
  rw [rep_get]
  by_cases hj : j < 256
  · rw [pcs_get _ _ (by omega), if_pos hj]
    unfold newPg
    rw [if_neg (by omega)]
    rfl
  · rw [if_neg hj]
    by_cases h2 : j = 256
    · subst h2
      rw [pcs_get _ _ (by omega), if_pos rfl]
      unfold newPg
      rw [if_pos rfl]
      have : (perm.toUInt8).toNat = perm := by simp; omega
      rw [this]
    · rw [if_neg h2, List.getElem?_eq_none (by rw [pcs_length]; omega)]


theorem zeroCells_set (v : Value) : Tryd.zeroCells96.setIfInBounds 256 v = (newCells v).toArray := by kernel_rfl

theorem mapE_arg {A : As} {x perm : Nat} (h : ¬ (x < 1048576 ∧ x % 256 = 0) ∨ 7 < perm) : mapE A x perm = 2 := by unfold mapE; rw [if_pos h]
theorem mapA_not {A : As} {x perm : Nat} (h : mapE A x perm ≠ 0) : mapA A x perm = A := by unfold mapA; rw [if_neg h]

theorem neq_nil (x : Option Addr) (w : World) : (binOp .neq 94 (.pointer x) (.pointer none)).run Tryd.prog w = .ok (.bool (!x.isNone)) w := run_neq_pointer_nil w 94 x (by kernel_rfl)

set_option maxHeartbeats 1000000 in
set_option maxRecDepth 100000 in
theorem map_any (b e n : Nat) (hn : n < 1099511627776) (A : As) (x perm : Nat) (hx : x < 4294967296) (hpm : perm < 256) (w : World) (h : SpaceAt w b e n A) :
    Calls Tryd.prog 37 #[.pointer (some ⟨b + 1, 0, none⟩), .int .u32 (x : Int), .int .u8 (perm : Int)] w fun e' w' =>
      e' = .returned (.int .i64 (mapE A x perm)) ∧ (∃ e2, e ≤ e2 ∧ SpaceAt w' b e2 (n + 1) (mapA A x perm)) ∧ Turn w w' b e := by
  have HS := Lib.hid h
  obtain ⟨pg, h⟩ := h
  have H := Lib.hid h
  have c := h.cell
  have hI := isPage_any (x : Int) (by omega) (by omega) w
  have HN := Lib.hid hn
  have HPM := Lib.hid hpm
  obtain ⟨ob, hob⟩ : ∃ ob, ob = decide ((x : Int) < 1048576 ∧ (x : Int) % 256 = 0) := ⟨_, rfl⟩
  rw [← hob] at hI
  have HOB : Hid (ob = decide ((x : Int) < 1048576 ∧ (x : Int) % 256 = 0)) := Lib.hid hob
  have HStay : Hid (∀ w0, w0 = w → (∃ e2, e ≤ e2 ∧ SpaceAt w0 b e2 (n + 1) A) ∧ Turn w w0 b e) := Lib.hid (by
    rintro w0 rfl
    exact ⟨⟨e, Nat.le_refl _, pg, h.head, h.lo, h.hi, h.map.mono (Nat.le_succ _), h.none, h.page, h.inj⟩, Turn.refl _ _ _⟩)
  clear h hn hob hpm
  cases ob with
  | false =>
    have hr : mapE A x perm = 2 := mapE_arg (Or.inl (by have := HOB.out; simp at this; omega))
    have hA : mapA A x perm = A := mapA_not (by rw [hr]; decide)
    rw [hr, hA]
    clear hr hA hx
    go_enter Tryd.func37, Tryd.ntmps37
    go_wp2_with (go_at_call 51; refine hI.mono ?_; rintro e w' ⟨rfl, rfl⟩)
    go_ret
    exact ⟨rfl, HStay.out _ rfl⟩
  | true =>
    have h1 : x < 1048576 ∧ x % 256 = 0 := by have := HOB.out; simp at this; omega
    have H1 := Lib.hid h1
    by_cases h2 : (7 : Int) < perm
    · have hr : mapE A x perm = 2 := mapE_arg (Or.inr (by omega))
      have hA : mapA A x perm = A := mapA_not (by rw [hr]; decide)
      rw [hr, hA]
      clear h1 hr hA hx
      go_enter Tryd.func37, Tryd.ntmps37
      go_wp2_with (go_at_call 51; refine hI.mono ?_; rintro e w' ⟨rfl, rfl⟩)
      go_ret
      exact ⟨rfl, HStay.out _ rfl⟩
    · obtain ⟨i, hi⟩ : ∃ i : Nat, x = 256 * i := ⟨x / 256, by omega⟩
      have HI := Lib.hid hi
      have hxi : x / 256 = i := by omega
      have hl := H.out.look (x : Int) (by omega) (by omega)
      have hcast : ((256 * i : Nat) : Int) = 256 * (i : Int) := by omega
      rw [hi, hcast, pgk_at, ← hcast, ← hi] at hl
      cases hp : pg i with
      | some p =>
        rw [hp, show ptrV (some p) = .pointer (some ⟨p, 0, none⟩) from rfl] at hl
        obtain ⟨q1, q2, q3, f, q4, q5⟩ := H.out.page i p hp
        have hr : mapE A x perm = 9 := by unfold mapE; rw [if_neg (by omega), hxi, q4]; rfl
        have hA : mapA A x perm = A := mapA_not (by rw [hr]; decide)
        rw [hr, hA]
        have hne := neq_nil (some ⟨p, 0, none⟩)
        have hg : decide ((7 : Int) < (perm : Int)) = false := by simpa using h2
        clear h2 h1 hr hA hx hi hxi hcast q1 q2 q3 q4 q5 hp
        go_enter Tryd.func37, Tryd.ntmps37
        go_wp2_with (go_at_call 51; refine hI.mono ?_; rintro e w' ⟨rfl, rfl⟩)
        go_ret
        exact ⟨rfl, HStay.out _ rfl⟩
      | none =>
        rw [hp, show ptrV none = .pointer none from rfl] at hl
        have hr : mapE A x perm = 0 := by unfold mapE; rw [if_neg (by omega), hxi, H.out.none i hp]; rfl
        have hA : mapA A x perm = upd A i (some (newPg perm)) := by unfold mapA; rw [if_pos hr, hxi]
        rw [hr, hA]
        have HP := Lib.hid hp
        have hne := neq_nil none
        have hg : decide ((7 : Int) < (perm : Int)) = false := by simpa using h2
        clear h2 h1 hr hA hx hi hxi hcast hp
        go_enter Tryd.func37, Tryd.ntmps37
        go_wp2_with (first
          | (go_at_call 51; refine hI.mono ?_; rintro e w' ⟨rfl, rfl⟩)
          | (at_mapUpdate; refine wpList_put rfl _ _ _ rfl b n i _ pg rfl (H.out.map.same (Below.heap_alloc _ _ _ H.out.map.lt)) (by have := HN.out; unfold maxLen; omega) (x : Int) rfl (by have := HI.out; omega) (by have := HI.out; have := H1.out; omega) rfl ?_; intro w1 hm1 ht1))
        go_ret
        obtain ⟨hb0, hhi⟩ := And.intro H.out.map.lt H.out.hi
        have hlo := H.out.lo
        have hbl : Blk w1 w'.heap.size 96 (pcs (newPg perm)) := by
          unfold Blk
          rw [ht1.grown.block w'.heap.size (by simp) (by intro h; injection h; omega), heap_alloc_new, ← newCells_eq perm HPM.out, zeroCells_set]
        have hold : ∀ j, j < w'.heap.size → j ≠ b → w1.heap[j]? = w'.heap[j]? := fun j hj hne => by
          rw [ht1.grown.block j (by simp; omega) (by intro h; injection h; omega)]
          exact Below.heap_alloc _ _ _ hj
        have hsz : w1.heap.size = w'.heap.size + 1 := by
          obtain ⟨es, clock, es', clock', hbb, rfl⟩ := ht1
          simp [ChangeMaps.setBlock]
        refine ⟨rfl, ⟨w'.heap.size + 1, by omega, setp pg i (some w'.heap.size), H.out.head.same (hold _ (by omega) (by omega)), by omega, by omega, hm1, fun k hk => ?_, fun k p hk => ?_, fun k l p hk hl => ?_⟩, ⟨?_, ?_, ?_, by omega, fun j hj hm => hold j hj (fun h => hm (Or.inl h))⟩⟩
        · unfold setp at hk
          by_cases hki : k = i
          · rw [if_pos hki] at hk; cases hk
          · rw [if_neg hki] at hk
            unfold upd
            rw [if_neg hki]; exact H.out.none k hk
        · unfold setp at hk
          by_cases hki : k = i
          · rw [if_pos hki] at hk
            cases hk
            refine ⟨by have := HI.out; have := H1.out; omega, by omega, by omega, newPg perm, ?_, hbl⟩
            unfold upd
            rw [if_pos hki]
          · rw [if_neg hki] at hk
            obtain ⟨q1, q2, q3, f, q4, q5⟩ := H.out.page k p hk
            refine ⟨q1, q2, by omega, f, ?_, q5.same (hold _ (by omega) (by omega))⟩
            unfold upd
            rw [if_neg hki]; exact q4
        · unfold setp at hk hl
          by_cases hki : k = i
          · by_cases hli : l = i
            · omega
            · rw [if_pos hki] at hk
              rw [if_neg hli] at hl
              cases hk
              obtain ⟨q1, q2, q3, _⟩ := H.out.page l _ hl
              omega
          · by_cases hli : l = i
            · rw [if_neg hki] at hk
              rw [if_pos hli] at hl
              cases hl
              obtain ⟨q1, q2, q3, _⟩ := H.out.page k _ hk
              omega
            · rw [if_neg hki] at hk
              rw [if_neg hli] at hl
              exact H.out.inj k l p hk hl
        · exact ht1.grown.os
        · exact ht1.grown.tape
        · exact ht1.grown.output
end Go.Proofs.YtgdbhmlmioihpaaDoor
end

/- Unmap; put (Set, Write). -/
section
set_option linter.unusedVariables false
namespace Go.Proofs.YtgdbhmlmioihpaaDoor
open Go.RowKit Go.Maps

def putE (A : As) (need x : Nat) (s : ByteArray) : Int := if okAll A need x s.size = true then 0 else 50
def putR (A : As) (need x : Nat) (s : ByteArray) : As := if okAll A need x s.size = true then putAt A x s.data.toList else A

theorem wpList_copy_is (w : World) {P : Program} {ops : Array Oper} {rest : List Oper} {o : Oper} {a : Act} {Q : Exit → Act → World → Prop} (hgd : o.guard = none) (d s : Operand) (t t' : TypeId)
    (ho : o.op = .call { callee := .builtin .copy, args := #[d, s], argTypes := #[t, t'] }) (v u : Value) (hd : a.eval d = v) (hs : a.eval s = u) {v' : Value} {w' : World}
    (hr : (Builtin.copy_ #[t, t'] o.type #[v, u]).run P w = .ok v' w') (h : wpList P ops Q rest (a.put o.dst v') w') : wpList P ops Q (o :: rest) a w :=
  wpList_plain hgd fun _ hK => by
    unfold Oper.wp execOp
    simp only [ho, resolve, invoke, builtin, Sem.run_bind, Sem.run_pure, Result.andThen_ok, List.map_toArray, List.map_cons, List.map_nil, hd, hs, hr]
    exact hK _ _ h

/-- copy of a text's first bytes into a page. -/
theorem run_copy_part {P : Program} (w : World) (dT sT ty elem : TypeId) (g o dLen dCap k : Nat) (s : ByteArray) (cur : List Value) (t : TypeId)
    (hu : P.underlying dT = some (.slice elem)) (hs : (P.info? elem).map (·.size) = some 1) (hg : Blk w g t cur) (hk : k = Nat.min s.size dLen) (hfit : o + k ≤ cur.length) :
    (Builtin.copy_ #[dT, sT] ty #[.slice (some ⟨g, o, none⟩) dLen dCap, .string s]).run P w =
      .ok (goInt k) (w.setRow g (cur.take o ++ ((s.data.toList.take k).map fun x => Value.int .u8 (x.toNat : Int)) ++ cur.drop (o + k)).toArray) := by
  have hsz : s.data.toList.length = s.size := rfl
  have hlen : ((s.data.toList.take k).map fun x => Value.int .u8 (x.toNat : Int)).length = k := by
    rw [List.length_map, List.length_take, hsz]
    have : Nat.min s.size dLen ≤ s.size := Nat.min_le_left _ _
    omega
  have hone : ∀ v ∈ ((s.data.toList.take k).map fun x => Value.int .u8 (x.toNat : Int)), v.oneCell' = true := by
    intro v hv; simp only [List.mem_map] at hv; obtain ⟨x, _, rfl⟩ := hv; rfl
  have hst := run_storeCells_at (P := P) g o t ((s.data.toList.take k).map fun x => Value.int .u8 (x.toNat : Int)) 0 cur.toArray w hg (by rw [hlen]; simpa using hfit) hone
  rw [hlen] at hst
  simp only [Nat.add_zero] at hst
  cases hq : P.info? elem with
  | none => simp [hq] at hs
  | some i =>
    simp [Builtin.copy_, run_underlying hu, Builtin.lenOf, Builtin.firstCells, sizeOf, typeInfo, hq]
    rw [← hk]
    rw [List.map_take] at hst
    rw [hst]
    simp [Result.andThen]

def strLen (v : Value) : Nat := match v with | .string s => s.size | _ => 0
set_option maxHeartbeats 1000000 in
set_option maxRecDepth 100000 in
theorem put_any (b e n need : Nat) (hn : need < 8) (A : As) (x : Nat) (s : ByteArray) (hx : x < 4294967296) (hs : s.size ≤ 1099511627776) (w : World) (h : SpaceAt w b e n A) :
    Calls Tryd.prog 55 #[.pointer (some ⟨b + 1, 0, none⟩), .int .u32 (x : Int), .string s, mayV need] w fun e' w' =>
      e' = .returned (.int .i64 (putE A need x s)) ∧ SpaceAt w' b e n (putR A need x s) ∧ Turn w w' b e := by
  have HS := Lib.hid h
  obtain ⟨pg, h⟩ := h
  have H := Lib.hid h
  have hAll := all_any b e n need hn pg A x s.size hx hs w h
  have HX := Lib.hid hx
  have HSZ := Lib.hid hs
  obtain ⟨mv, hmv⟩ : ∃ mv, mv = mayV need := ⟨_, rfl⟩
  rw [← hmv] at hAll ⊢
  clear h hx hs hmv
  cases hok : okAll A need x s.size with
  | false =>
    have hr : putE A need x s = 50 := by unfold putE; rw [hok]; rfl
    have hA : putR A need x s = A := by unfold putR; rw [hok]; rfl
    rw [hok] at hAll
    rw [hr, hA]
    clear hok hr hA
    go_enter Tryd.func55, Tryd.ntmps55
    go_wp2_with (go_at_call 56; refine hAll.mono ?_; rintro e w' ⟨rfl, rfl⟩)
    go_ret
    exact ⟨rfl, HS.out, Turn.refl _ _ _⟩
  | true =>
    have hr : putE A need x s = 0 := by unfold putE; rw [hok]; rfl
    have hA : putR A need x s = putAt A x s.data.toList := by unfold putR; rw [hok]; rfl
    rw [hok] at hAll
    rw [hr, hA]
    have HOK := Lib.hid hok
    clear hok hr hA
    go_enter Tryd.func55, Tryd.ntmps55
    go_wp2_with (go_at_call 56; refine hAll.mono ?_; rintro e w' ⟨rfl, rfl⟩)
    obtain ⟨w, rfl⟩ : ∃ w, w = w' := ⟨_, rfl⟩
    go_loopw [1, 2, 9] (fun t1 t2 t9 wr => ∃ (d : Nat) (y : Int) (u : ByteArray), Hid (d ≤ s.size) ∧ Hid (y = ((x + d : Nat) : Int)) ∧ Hid (u.data.toList = s.data.toList.drop d) ∧ t1 = .int .u32 y ∧ t2 = .string u ∧ Hid (SpaceP wr b e n pg (putAt A x (s.data.toList.take d))) ∧ Hid (Turn w wr b e)) (fun _ t2 _ _ => strLen t2)
    case atStart => exact ⟨0, (x : Int), s, Lib.hid (Nat.zero_le _), Lib.hid (by omega), Lib.hid rfl, rfl, rfl, by simpa [putAt_nil] using H, Lib.hid (Turn.refl _ _ _)⟩
    case round =>
      obtain ⟨d, y, u, HD, HY, HU, rfl, rfl, HP, HT⟩ := hrel
      have husz : u.size = s.size - d := by have h := congrArg List.length HU.out; rw [List.length_drop] at h; exact h
      by_cases hd : d = s.size
      · have hu : u = ⟨#[]⟩ := by
          have : u.size = 0 := by omega
          exact ByteArray.ext (Array.eq_empty_of_size_eq_zero this)
        have hfin : s.data.toList.take d = s.data.toList := by rw [hd]; exact List.take_of_length_le (Nat.le_refl _)
        subst hu
        clear husz hd
        go_wp2
        go_ret
        exact ⟨rfl, ⟨pg, by rw [← hfin]; exact HP.out⟩, HT.out⟩
      · have hlt : d < s.size := by have := HD.out; omega
        have hk : okPg A need ((x + d) / 256) = true := (okAll_iff _ _ _ _).1 HOK.out d hlt
        obtain ⟨f0, hf0, _⟩ := okPg_some hk
        obtain ⟨i, hi⟩ : ∃ i, i = (x + d) / 256 := ⟨_, rfl⟩
        rw [← hi] at hf0 hk
        cases hp : pg i with
        | none => have := HP.out.none i hp; unfold putAt at this; rw [hf0] at this; cases this
        | some p =>
          obtain ⟨q1, q2, q3, f, q4, q5⟩ := HP.out.page i p hp
          obtain ⟨q1', q2', q3', f', q4', q5'⟩ := H.out.page i p hp
          have hPc := piece_any b e n p pg _ (x + d) u.size (by omega) (by have := HSZ.out; omega) wr HP.out (by rw [← hi]; exact hp)
          rw [← HY.out] at hPc
          obtain ⟨r, hr⟩ : ∃ r, r = (x + d) % 256 := ⟨_, rfl⟩
          rw [← hr] at hPc
          obtain ⟨k, hkk⟩ : ∃ k, k = min (r + u.size) 256 - r := ⟨_, rfl⟩
          rw [← hkk] at hPc
          have hk1 : 1 ≤ k := by omega
          have hk2 : k ≤ u.size := by omega
          have hk3 : r + k ≤ 256 := by omega
          have hmin : k = Nat.min u.size k := (Nat.min_eq_right hk2).symm
          have hcp := run_copy_part (P := Tryd.prog) wr 56 9 3 5 p r k (257 - r) k u _ 96 Tryd.underlying56 infoU8 q5 hmin (by rw [pcs_length]; omega)
          obtain ⟨q, hq⟩ : ∃ q, q = u.data.toList.take k := ⟨_, rfl⟩
          have hql : q.length = k := by
            rw [hq, List.length_take]
            exact Nat.min_eq_left hk2
          rw [← hq] at hcp
          have hpp := pcs_put f i (x + d) q hi (by rw [hql, ← hr]; exact hk3)
          rw [hql, ← hr] at hpp
          rw [← hpp] at hcp
          obtain ⟨w2, hw2⟩ : ∃ w2, w2 = wr.setRow p (pcs (putPg f i (x + d) q)).toArray := ⟨_, rfl⟩
          rw [← hw2] at hcp
          have hcp' : (Builtin.copy_ #[56, 9] 3 #[.slice (some ⟨p, r, none⟩) k (257 - r), .string u]).run Tryd.prog wr = .ok (.int .i64 (k : Int)) w2 := hcp
          have hold : ∀ j, j < wr.heap.size → j ≠ p → w2.heap[j]? = wr.heap[j]? := fun j _ hj => by rw [hw2]; exact setRow_other wr p j _ hj
          have hsz2 : wr.heap.size = w2.heap.size := by rw [hw2]; simp
          have hP2 : SpaceP w2 b e n pg (putAt A x (s.data.toList.take (d + k))) := by
            have h1 := HP.out.turn (w' := w2) (f := putPg f i (x + d) q) hp (Nat.le_of_eq hsz2) (by rw [hw2]; exact setRow_heap wr p _ _ 96 (0, 0) q5) hold
            have h2 := putAt_one (putAt A x (s.data.toList.take d)) (x + d) q f (by rw [← hi]; exact q4) (by rw [hql, ← hr]; exact hk3)
            rw [← hi] at h2
            rw [← h2] at h1
            have h3 := putAt_append A x (s.data.toList.take d) q
            rw [List.length_take, Nat.min_eq_left (show d ≤ s.data.toList.length from HD.out)] at h3
            rw [List.take_add, ← HU.out, ← hq, h3]
            exact h1
          have hT2 : Turn w w2 b e := ⟨by rw [hw2]; exact HT.out.os, by rw [hw2]; exact HT.out.tape, by rw [hw2]; exact HT.out.output, by rw [← hsz2]; exact HT.out.size, fun j hj hm => by
            rw [hold j (Nat.lt_of_lt_of_le hj HT.out.size) (by rintro rfl; exact hm (Or.inr ⟨by omega, q3', _, _, q5'⟩))]
            exact HT.out.block j hj hm⟩
          have HP2 := Lib.hid hP2
          have HT2 := Lib.hid hT2
          have kk0 : (0 : Int) ≤ (k : Int) := by omega
          have kk1 : (k : Int) ≤ (u.size : Int) := by omega
          have e1 : IntKind.u32.wrap (k : Int) = (k : Int) := by rw [IntKind.wrap_u32]; omega
          have e2 : (y + (k : Int)) % 4294967296 = y + (k : Int) := by have := HY.out; omega
          have hun : (u.toList == []) = false := by
            cases hul : u.toList with
            | nil =>
              rw [ByteArray.toList_eq] at hul
              have : u.data.toList.length = 0 := by rw [hul]; rfl
              have h2 : u.size = u.data.toList.length := rfl
              omega
            | cons a l => rfl
          have HK := Lib.hid (And.intro hk1 (And.intro hk2 husz))
          clear hkk hk1 hk2 hk3 hmin hql hq hpp hw2 hcp hold hsz2 hP2 hT2 q1 q2 q3 q4 q5 q1' q2' q3' q4' q5' hp hk hf0 hi hr husz hd hlt
          go_wp2_with (first
            | (go_at_call 60; refine hPc.mono ?_; rintro e w' ⟨rfl, rfl⟩)
            | (at_builtin; refine wpList_copy_is _ rfl _ _ 56 9 rfl _ _ rfl rfl hcp' ?_))
          refine ⟨⟨d + k, y + (k : Int), u.extract k u.size, Lib.hid (by have := HK.out; have := HD.out; omega), Lib.hid (by have := HY.out; omega), Lib.hid (by rw [Lib.extract_to_end, HU.out, List.drop_drop]), rfl, rfl, HP2, HT2⟩, ?_⟩
          show (u.extract k u.size).size < u.size
          have := HK.out
          simp
          omega

set_option maxHeartbeats 1000000 in
set_option maxRecDepth 100000 in
theorem set_any (b e n : Nat) (A : As) (x : Nat) (s : ByteArray) (hx : x < 4294967296) (hs : s.size ≤ 1099511627776) (w : World) (h : SpaceAt w b e n A) :
    Calls Tryd.prog 40 #[.pointer (some ⟨b + 1, 0, none⟩), .int .u32 (x : Int), .string s] w fun e' w' =>
      e' = .returned (.int .i64 (putE A 0 x s)) ∧ SpaceAt w' b e n (putR A 0 x s) ∧ Turn w w' b e := by
  have hP := put_any b e n 0 (by decide) A x s hx hs w h
  rw [show mayV 0 = .func (.func 43) #[.int .u8 0] #[] from rfl] at hP
  clear hx hs h
  go_enter Tryd.func40, Tryd.ntmps40
  go_wp2_with (go_at_call 55; refine hP.mono ?_; rintro e w' ⟨rfl, h1, h2⟩)
  go_ret
  exact ⟨rfl, h1, h2⟩
set_option maxHeartbeats 1000000 in
set_option maxRecDepth 100000 in
theorem write_any' (b e n : Nat) (A : As) (x : Nat) (s : ByteArray) (hx : x < 4294967296) (hs : s.size ≤ 1099511627776) (w : World) (h : SpaceAt w b e n A) :
    Calls Tryd.prog 68 #[.pointer (some ⟨b + 1, 0, none⟩), .int .u32 (x : Int), .string s] w fun e' w' =>
      e' = .returned (.int .i64 (putE A 2 x s)) ∧ SpaceAt w' b e n (putR A 2 x s) ∧ Turn w w' b e := by
  have hP := put_any b e n 2 (by decide) A x s hx hs w h
  rw [show mayV 2 = .func (.func 43) #[.int .u8 2] #[] from rfl] at hP
  clear hx hs h
  go_enter Tryd.func68, Tryd.ntmps68
  go_wp2_with (go_at_call 55; refine hP.mono ?_; rintro e w' ⟨rfl, h1, h2⟩)
  go_ret
  exact ⟨rfl, h1, h2⟩
end Go.Proofs.YtgdbhmlmioihpaaDoor
end
