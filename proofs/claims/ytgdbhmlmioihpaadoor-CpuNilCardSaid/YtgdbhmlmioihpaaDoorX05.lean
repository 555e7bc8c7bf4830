/- Some texts of one proof, one behind the other; each has its own head below. -/
import Derived.Test.YtgdbhmlmioihpaaDoorX02
import Derived.Test.YtgdbhmlmioihpaaDoorX03
import Derived.Test.YtgdbhmlmioihpaaDoorX04
import Derived.Lib.BufferWrite
/- get (Look, Read, Fetch). -/
section
set_option linter.unusedVariables false
namespace Go.Proofs.YtgdbhmlmioihpaaDoor
open Go.RowKit Go.Maps

def getE (A : As) (need x : Nat) (m : Int) : Int := if m < 0 ∨ 1048576 < m then 2 else if okAll A need x m.toNat = true then 0 else 50
def getS (A : As) (need x : Nat) (m : Int) : ByteArray := if getE A need x m = 0 then ⟨(bytesAt A x m.toNat).toArray⟩ else ⟨#[]⟩
theorem liesB : LiesB 107 := ⟨by decide, by kernel_rfl⟩
/-- How long the builder behind g is. -/
def bl (g : Nat) (w : World) : Nat := match w.cell? ⟨g, 1, none⟩ with | some (.slice _ n _) => n | _ => 0
theorem bl_is {B b : Nat} {bs : List Value} {w : World} (h : Lib.IsBuilder 107 5 B b bs w) : bl b w = bs.length := by
  obtain ⟨p, hB, v, hbk, hown, hne⟩ : ∃ p, Lib.BuilderAt 107 5 B b p bs w := by
    rcases h with h | h
    · exact ⟨_, h⟩
    · exact ⟨_, h⟩
  have c1 : w.cell? ⟨b, 1, none⟩ = some v := by rw [Lib.cell_of_heap hbk]; rfl
  unfold bl
  rw [c1]
  rcases hown.2 with ⟨rfl, hz⟩ | ⟨g, cap, cur, hv, r⟩
  · exact hz.symm
  · rw [hv]
theorem cells_in {A : As} {p i r q y : Nat} {f : Pg} {w : World} (hA : A i = some f) (hb : Blk w p 96 (pcs f)) (hy : y = 256 * i + r) (hq : r + q ≤ 256) :
    ∀ j u, (Lib.byteCells (bytesAt A y q))[j]? = some u → w.cell? ((⟨p, r, none⟩ : Addr).add j) = some u := by
  intro j u hu
  unfold Lib.byteCells at hu
  rw [List.getElem?_map] at hu
  by_cases hj : j < q
  · rw [bytesAt_get _ _ _ _ hj] at hu
    simp only [Option.map_some, Option.some.injEq] at hu
    rw [Addr.add_mid, hb.cell, pcs_get f _ (by omega), ← hu, hy, Nat.add_assoc, byteAt_pg hA (by omega)]
  · rw [List.getElem?_eq_none (by rw [bytesAt_length]; omega)] at hu
    cases hu
theorem getS_not {A : As} {need x : Nat} {m : Int} (h : getE A need x m ≠ 0) : getS A need x m = ⟨#[]⟩ := by unfold getS; rw [if_neg h]

set_option maxHeartbeats 2000000 in
set_option maxRecDepth 100000 in
theorem get_any (b e n need : Nat) (hn : need < 8) (A : As) (x : Nat) (m : Int) (hx : x < 4294967296) (w : World) (h : SpaceAt w b e n A) :
    Calls Tryd.prog 42 #[.pointer (some ⟨b + 1, 0, none⟩), .int .u32 (x : Int), .int .i64 m, mayV need] w fun e' w' =>
      e' = .returned (.tuple #[.string (getS A need x m), .int .i64 (getE A need x m)]) ∧ Below w.heap.size w w' := by
  have HS := Lib.hid h
  obtain ⟨pg, h⟩ := h
  have H := Lib.hid h
  have HX := Lib.hid hx
  obtain ⟨mv, hmv⟩ : ∃ mv, mv = mayV need := ⟨_, rfl⟩
  rw [← hmv]
  have HMV := Lib.hid hmv
  clear hmv
  by_cases hneg : m < 0
  · have hr : getE A need x m = 2 := by unfold getE; rw [if_pos (Or.inl hneg)]
    have hA := getS_not (A := A) (need := need) (x := x) (m := m) (by rw [hr]; decide)
    rw [hr, hA]
    clear h hx hr hA
    go_enter Tryd.func42, Tryd.ntmps42
    go_wp2
    go_ret2
    exact ⟨rfl, Below.refl _ _⟩
  by_cases hbig : 1048576 < m
  · have hr : getE A need x m = 2 := by unfold getE; rw [if_pos (Or.inr hbig)]
    have hA := getS_not (A := A) (need := need) (x := x) (m := m) (by rw [hr]; decide)
    rw [hr, hA]
    clear h hx hr hA
    go_enter Tryd.func42, Tryd.ntmps42
    go_wp2
    go_ret2
    exact ⟨rfl, Below.refl _ _⟩
  obtain ⟨k, rfl⟩ := Int.eq_ofNat_of_zero_le (show 0 ≤ m by omega)
  have hAll := all_any b e n need hn pg A x k hx (by omega) w h
  rw [← HMV.out] at hAll
  have hg1 : decide ((k : Int) < 0) = false := by simp
  have hg2 : decide ((1048576 : Int) < (k : Int)) = false := by simpa using hbig
  have HK : Hid (k ≤ 1048576) := Lib.hid (by omega)
  have hge : getE A need x (k : Int) = if okAll A need x k = true then 0 else 50 := by unfold getE; rw [if_neg (by omega), Int.toNat_natCast]
  cases hok : okAll A need x k with
  | false =>
    rw [hok] at hge hAll
    have hr : getE A need x (k : Int) = 50 := hge
    have hA := getS_not (A := A) (need := need) (x := x) (m := (k : Int)) (by rw [hr]; decide)
    rw [hr, hA]
    clear h hx hr hA hge hok hneg hbig
    go_enter Tryd.func42, Tryd.ntmps42
    go_wp2_with (go_at_call 56; refine hAll.mono ?_; rintro e w' ⟨rfl, rfl⟩)
    go_ret2
    exact ⟨rfl, Below.refl _ _⟩
  | true =>
    rw [hok] at hge hAll
    have hr : getE A need x (k : Int) = 0 := hge
    have hA : getS A need x (k : Int) = ⟨(bytesAt A x k).toArray⟩ := by unfold getS; rw [if_pos hr, Int.toNat_natCast]
    rw [hr, hA]
    have HOK := Lib.hid hok
    have HG := Lib.hid (Grow_new liesB w (k : Int) (by omega) (by omega))
    clear h hx hr hA hge hok hneg hbig
    go_enter Tryd.func42, Tryd.ntmps42
    go_wp2_with (first
      | (go_at_call 56; refine hAll.mono ?_; rintro e w' ⟨rfl, rfl⟩)
      | (go_at_call 57; refine HG.out.mono ?_; rintro e w1 ⟨rfl, hB1, hb1⟩))
    obtain ⟨w, rfl⟩ : ∃ w, w = w' := ⟨_, rfl⟩
    have HB1 := Lib.hid hB1
    have Hb1 := Lib.hid hb1
    have HSz := Lib.hid H.out.hi
    obtain ⟨G, hG⟩ : ∃ G, G = w.heap.size := ⟨_, rfl⟩
    have HG' := Lib.hid hG
    clear hB1 hb1 HG
    rw [← hG] at HB1
    rw [← hG]
    clear hG
    go_loopw [30] (fun t30 wr => ∃ d : Nat, Hid (d ≤ k) ∧ Hid (Lib.IsBuilder 107 5 G G (Lib.byteCells (bytesAt A x d)) wr) ∧ Hid (Below w.heap.size w wr)) (fun _ wr => k - bl G wr)
    case atStart => exact ⟨0, Lib.hid (Nat.zero_le _), HB1, Hb1⟩
    case round =>
      obtain ⟨d, HD, HBd, Hbd⟩ := hrel
      have hlen : (Lib.byteCells (bytesAt A x d)).length = d := by rw [Lib.byteCells_length, bytesAt_length]
      have hLen := blen_any G G _ wr HBd.out
      rw [hlen] at hLen
      by_cases hdk : (d : Int) < (k : Int)
      · have hlt : d < k := by omega
        have hk : okPg A need ((x + d) / 256) = true := (okAll_iff _ _ _ _).1 HOK.out d hlt
        obtain ⟨f0, hf0, _⟩ := okPg_some hk
        obtain ⟨i, hi⟩ : ∃ i, i = (x + d) / 256 := ⟨_, rfl⟩
        have hPr := H.out.below Hbd.out HSz.out
        rw [← hi] at hf0 hk
        cases hp : pg i with
        | none => have := hPr.none i hp; rw [hf0] at this; cases this
        | some p =>
          obtain ⟨q1, q2, q3, f, q4, q5⟩ := hPr.page i p hp
          have hPc := piece_any b e n p pg _ (x + d) (k - d) (by omega) (by have := HK.out; omega) wr hPr (by rw [← hi]; exact hp)
          obtain ⟨y, hy⟩ : ∃ y : Int, y = ((x + d : Nat) : Int) := ⟨_, rfl⟩
          obtain ⟨z, hz⟩ : ∃ z : Int, z = ((k - d : Nat) : Int) := ⟨_, rfl⟩
          rw [← hy, ← hz] at hPc
          obtain ⟨r, hr⟩ : ∃ r, r = (x + d) % 256 := ⟨_, rfl⟩
          rw [← hr] at hPc
          obtain ⟨q, hqq⟩ : ∃ q, q = min (r + (k - d)) 256 - r := ⟨_, rfl⟩
          rw [← hqq] at hPc
          have e1 : IntKind.u32.wrap (d : Int) = (d : Int) := by rw [IntKind.wrap_u32]; have := HK.out; omega
          have e2 : ((x : Int) + (d : Int)) % 4294967296 = y := by omega
          have e3 : IntKind.i64.wrap ((k : Int) - (d : Int)) = z := by rw [IntKind.wrap_i64]; have := HK.out; omega
          have hq1 : 1 ≤ q := by omega
          have hq2 : d + q ≤ k := by omega
          have HW := Lib.hid (write_any liesB G G (Lib.byteCells (bytesAt A x d)) ⟨p, r, none⟩ q (257 - r) (Lib.byteCells (bytesAt A (x + d) q)) wr HBd.out (by rw [Lib.byteCells_length, bytesAt_length])
            (cells_in q4 q5 (by omega) (by omega)) (by have := HSz.out; have := HG'.out; show p ≠ G; omega) (Lib.byteCells_one _) (by rw [hlen]; have := HK.out; omega) (by rw [HG'.out]; exact Hbd.out.size))
          rw [← Lib.byteCells_append, ← bytesAt_add] at HW
          have HQ := Lib.hid (And.intro hq1 hq2)
          have hMeas : Hid (bl G wr = d) := Lib.hid (by rw [bl_is HBd.out, hlen])
          clear hlt hk hf0 hi hPr hp q1 q2 q3 q4 q5 hy hz hr hqq hq1 hq2 hlen
          go_wp2_with (first
            | (go_at_call 58; refine hLen.mono ?_; rintro e w2 ⟨rfl, rfl⟩)
            | (go_at_call 60; refine hPc.mono ?_; rintro e w2 ⟨rfl, rfl⟩)
            | (go_at_call 59; refine HW.out.mono ?_; rintro e w2 ⟨rfl, hB2, hb2⟩))
          refine ⟨⟨d + q, Lib.hid HQ.out.2, Lib.hid (Or.inr hB2), Lib.hid (Hbd.out.trans (by rw [← HG'.out]; exact hb2))⟩, ?_⟩
          rw [hMeas.out, bl_is (Or.inr hB2), Lib.byteCells_length, bytesAt_length]
          have := HQ.out
          omega
      · have hdd : d = k := by have := HD.out; omega
        subst hdd
        have HSt := Lib.hid (string_any G G (bytesAt A x d) wr HBd.out (by rw [HG'.out]; exact Hbd.out.size))
        clear hlen
        go_wp2_with (first
            | (go_at_call 58; refine hLen.mono ?_; rintro e w2 ⟨rfl, rfl⟩)
            | (go_at_call 61; refine HSt.out.mono ?_; rintro e w2 ⟨rfl, hb2⟩))
        go_ret2
        exact ⟨rfl, Hbd.out.trans (by rw [← HG'.out]; exact hb2)⟩

set_option maxHeartbeats 1000000 in
set_option maxRecDepth 100000 in
theorem read_any (b e n : Nat) (A : As) (x : Nat) (m : Int) (hx : x < 4294967296) (w : World) (h : SpaceAt w b e n A) :
    Calls Tryd.prog 65 #[.pointer (some ⟨b + 1, 0, none⟩), .int .u32 (x : Int), .int .i64 m] w fun e' w' =>
      e' = .returned (.tuple #[.string (getS A 1 x m), .int .i64 (getE A 1 x m)]) ∧ Below w.heap.size w w' := by
  have hP := get_any b e n 1 (by decide) A x m hx w h
  rw [show mayV 1 = .func (.func 43) #[.int .u8 1] #[] from rfl] at hP
  clear hx h
  go_enter Tryd.func65, Tryd.ntmps65
  go_wp2_with (go_at_call 42; refine hP.mono ?_; rintro e w' ⟨rfl, h2⟩)
  go_ret2
  exact ⟨rfl, h2⟩
set_option maxHeartbeats 1000000 in
set_option maxRecDepth 100000 in
theorem fetch_any (b e n : Nat) (A : As) (x : Nat) (hx : x < 4294967296) (w : World) (h : SpaceAt w b e n A) :
    Calls Tryd.prog 20 #[.pointer (some ⟨b + 1, 0, none⟩), .int .u32 (x : Int)] w fun e' w' =>
      e' = .returned (.tuple #[.string (getS A 4 x 8), .int .i64 (getE A 4 x 8)]) ∧ Below w.heap.size w w' := by
  have hP := get_any b e n 4 (by decide) A x 8 hx w h
  rw [show mayV 4 = .func (.func 43) #[.int .u8 4] #[] from rfl] at hP
  clear hx h
  go_enter Tryd.func20, Tryd.ntmps20
  go_wp2_with (go_at_call 42; refine hP.mono ?_; rintro e w' ⟨rfl, h2⟩)
  go_ret2
  exact ⟨rfl, h2⟩
end Go.Proofs.YtgdbhmlmioihpaaDoor
end

/- What putting does to bytes, pages and perms; plain mathematics. -/
section
set_option linter.unusedVariables false
namespace Go.Proofs.YtgdbhmlmioihpaaDoor
open Go.RowKit Go.Maps

theorem putAt_some (A : As) (addr : Nat) (s : List UInt8) (i : Nat) : (putAt A addr s i).isSome = (A i).isSome := by unfold putAt; cases A i <;> rfl
theorem putR_some (A : As) (need x : Nat) (s : ByteArray) (i : Nat) : (putR A need x s i).isSome = (A i).isSome := by
  unfold putR
  split
  · exact putAt_some _ _ _ _
  · rfl
theorem pagesOf_put (A : As) (need x : Nat) (s : ByteArray) : pagesOf (putR A need x s) = pagesOf A := by unfold pagesOf; simp only [putR_some]
theorem putE_two (A : As) (need x : Nat) (s : ByteArray) : putE A need x s = 0 ∨ putE A need x s = 50 := by unfold putE; split <;> simp
theorem putE_yes {A : As} {need x : Nat} {s : ByteArray} (h : putE A need x s = 0) : okAll A need x s.size = true ∧ putR A need x s = putAt A x s.data.toList := by
  unfold putE at h
  unfold putR
  split at h
  · rename_i h2; rw [if_pos h2]; exact ⟨h2, rfl⟩
  · cases h
theorem putR_no {A : As} {need x : Nat} {s : ByteArray} (h : putE A need x s ≠ 0) : putR A need x s = A := by
  unfold putE at h
  unfold putR
  split
  · rename_i h2; rw [if_pos h2] at h; exact absurd rfl h
  · rfl
theorem met_zero (f : Pg) : met 0 f = true := by unfold met; simp
theorem okPg_zero (A : As) (i : Nat) : okPg A 0 i = (A i).isSome := by
  unfold okPg
  cases A i with
  | none => rfl
  | some f => exact met_zero f
theorem okPg_has {A : As} {need i : Nat} (h : okPg A need i = true) : (A i).isSome = true := by
  obtain ⟨f, h1, _⟩ := okPg_some h; rw [h1]; rfl
theorem okAll_has {A : As} {need x n : Nat} (h : okAll A need x n = true) : okAll A 0 x n = true := by
  rw [okAll_iff] at h ⊢
  intro k hk
  rw [okPg_zero]
  exact okPg_has (h k hk)
theorem byteAt_put {A : As} {x : Nat} (addr : Nat) (s : List UInt8) (h : (A (x / 256)).isSome = true) : byteAt (putAt A addr s) x = if addr ≤ x ∧ x < addr + s.length then s.getD (x - addr) 0 else byteAt A x := by
  obtain ⟨f, hf⟩ := Option.isSome_iff_exists.1 h
  unfold byteAt putAt
  rw [hf]
  show putPg f (x / 256) addr s (x % 256) = _
  unfold putPg
  rw [show 256 * (x / 256) + x % 256 = x by omega]
  by_cases hc : addr ≤ x ∧ x < addr + s.length
  · rw [if_pos ⟨by omega, hc⟩, if_pos hc]
  · rw [if_neg (fun h => hc h.2), if_neg hc]
theorem bytesAt_put {A : As} {need addr : Nat} {s : List UInt8} (h : okAll A need addr s.length = true) : bytesAt (putAt A addr s) addr s.length = s := by
  apply List.ext_getElem?
  intro k
  by_cases hk : k < s.length
  · rw [okAll_iff] at h
    rw [bytesAt_get _ _ _ _ hk, byteAt_put addr s (okPg_has (h k hk)), if_pos (by omega), List.getD_eq_getElem?_getD, show addr + k - addr = k by omega, List.getElem?_eq_getElem hk]
    rfl
  · rw [List.getElem?_eq_none (by rw [bytesAt_length]; omega), List.getElem?_eq_none (by omega)]
theorem okAll_put (A : As) (addr : Nat) (s : List UInt8) (need x n : Nat) : okAll (putAt A addr s) need x n = okAll A need x n := by
  unfold okAll
  simp only [putAt_perm]
theorem put_look {A : As} {need x : Nat} {s : ByteArray} (hs : s.size ≤ 1048576) (h : putE A need x s = 0) : getE (putR A need x s) 0 x (s.size : Int) = 0 ∧ getS (putR A need x s) 0 x (s.size : Int) = s := by
  obtain ⟨h1, h2⟩ := putE_yes h
  have e : getE (putR A need x s) 0 x (s.size : Int) = 0 := by
    unfold getE
    rw [if_neg (by omega), h2, okAll_put, Int.toNat_natCast, if_pos (okAll_has h1)]
  refine ⟨e, ?_⟩
  unfold getS
  rw [if_pos e, h2, Int.toNat_natCast]
  have h3 : okAll A need x s.data.toList.length = true := by simpa using h1
  have := bytesAt_put h3
  rw [Array.length_toList] at this
  rw [show s.size = s.data.size from rfl, this]

def bAt (s : ByteArray) (k : Nat) : Int := ((s.data.toList.getD k 0).toNat : Int)
theorem run_index (s : ByteArray) (i : Int) (k : Nat) (hi : (k : Int) = i) (h : k < s.size) (x : Int) (hx : bAt s k = x) (W : World) : (Instr.index 9 (.string s) (.int .i64 i)).run Tryd.prog W = .ok (.int .u8 x) W := by
  have e : bAt s k = (s[k].toNat : Int) := by
    unfold bAt
    rw [List.getD_eq_getElem?_getD, List.getElem?_eq_getElem (by simpa using h)]
    rfl
  have hk : (k : Int) < (s.size : Int) := by omega
  rw [← hx, e, ← hi]
  simp [go_sem, hk]

/-- A page that is looked at. -/
theorem look_page {A : As} {i : Nat} (hi : i < 4096) (h : (A i).isSome = true) : getE A 0 (256 * i) 256 = 0 ∧ (getS A 0 (256 * i) 256).size = 256 ∧ ∀ k, k < 256 → bAt (getS A 0 (256 * i) 256) k = ((byteAt A (256 * i + k)).toNat : Int) := by
  have e : getE A 0 (256 * i) 256 = 0 := by
    unfold getE
    rw [if_neg (by omega), if_pos]
    refine okAll_pages _ _ _ _ fun j h1 h2 => ?_
    obtain rfl : j = i := by omega
    rw [okPg_zero]; exact h
  have es : getS A 0 (256 * i) 256 = ⟨(bytesAt A (256 * i) 256).toArray⟩ := by unfold getS; rw [if_pos e]; rfl
  refine ⟨e, ?_, fun k hk => ?_⟩
  · rw [es]
    show (bytesAt A (256 * i) 256).toArray.size = 256
    rw [List.size_toArray, bytesAt_length]
  · rw [es]
    unfold bAt
    show (((bytesAt A (256 * i) 256).toArray.toList.getD k 0).toNat : Int) = _
    rw [List.getD_eq_getElem?_getD]
    show ((((bytesAt A (256 * i) 256)[k]?).getD 0).toNat : Int) = _
    rw [bytesAt_get _ _ _ _ hk]
    rfl

structure PageX (A A2 : As) (E : Int) (addr n x : Nat) (a b : ByteArray) (p : Nat) : Prop where
  le : x ≤ 1048320
  e1 : getE A2 0 x 256 = 0
  e2 : getE A 0 x 256 = 0
  s1 : getS A2 0 x 256 = a
  s2 : getS A 0 x 256 = b
  z1 : a.size = 256
  z2 : b.size = 256
  p1 : permV A2 x = p
  p2 : permV A x = p
  eq : ∀ k, k < 256 → ¬ (E = 0 ∧ addr ≤ x + k ∧ x + k < addr + n) → bAt a k = bAt b k

theorem permV_put (A : As) (need x y : Nat) (s : ByteArray) : permV (putR A need x s) y = permV A y := by
  unfold putR
  split
  · unfold permV putAt
    cases A (y / 256) with
    | none => rfl
    | some f =>
      show (putPg f (y / 256) x s.data.toList 256).toNat = (f 256).toNat
      unfold putPg
      rw [if_neg (by omega)]
  · rfl

theorem page_x (A : As) (need addr : Nat) (s : ByteArray) (j : Nat) (hj : j < (pagesOf A).length) :
    ∃ x a b p, (pagesOf A).toArray[j]! = ((x : Nat) : Int) ∧ PageX A (putR A need addr s) (putE A need addr s) addr s.size x a b p := by
  have hm : (pagesOf A)[j] ∈ pagesOf A := List.getElem_mem hj
  obtain ⟨i, hi, hs, hx⟩ := (mem_pagesOf A _).1 hm
  have hs2 : (putR A need addr s i).isSome = true := by rw [putR_some]; exact hs
  obtain ⟨q1, q2, q3⟩ := look_page (A := A) hi hs
  obtain ⟨r1, r2, r3⟩ := look_page (A := putR A need addr s) hi hs2
  have hj' : (pagesOf A).toArray[j]! = ((256 * i : Nat) : Int) := by
    rw [getElem!_pos (pagesOf A).toArray j (by simpa using hj), List.getElem_toArray, hx]
    omega
  refine ⟨256 * i, _, _, _, hj', ⟨by omega, r1, q1, rfl, rfl, r2, q2, permV_put _ _ _ _ _, rfl, fun k hk hn => ?_⟩⟩
  have hb : byteAt (putR A need addr s) (256 * i + k) = byteAt A (256 * i + k) := by
    by_cases hE : putE A need addr s = 0
    · obtain ⟨h1, h2⟩ := putE_yes hE
      rw [h2, byteAt_put _ _ (by rw [show (256 * i + k) / 256 = i by omega]; exact hs), if_neg]
      rintro ⟨h3, h4⟩
      exact hn ⟨hE, h3, h4⟩
    · rw [putR_no hE]
  rw [r3 k hk, q3 k hk, hb]
theorem pagesOf_size (A : As) : (pagesOf A).length ≤ 4096 := by
  unfold pagesOf
  rw [List.length_map]
  exact Nat.le_trans (List.length_filter_le _ _) (by simp)
end Go.Proofs.YtgdbhmlmioihpaaDoor
end
