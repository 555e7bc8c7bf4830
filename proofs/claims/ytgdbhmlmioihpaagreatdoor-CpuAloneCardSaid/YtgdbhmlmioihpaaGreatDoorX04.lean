/- Some texts of one proof, one behind the other; each has its own head below. -/
import Derived.Test.YtgdbhmlmioihpaaGreatDoorX02
import Derived.Test.YtgdbhmlmioihpaaGreatDoorX03
import Derived.Lib.BufferWrite
import Derived.Lib.BufferRead
import Derived.Laws.OwnMore
import Derived.Deep.AppendLies
/- get (Look, Read, Fetch). -/
section
set_option linter.unusedVariables false
namespace Go.Proofs.YtgdbhmlmioihpaaGreatDoor
open Go.RowKit Go.Maps

def getE (A : As) (need x : Nat) (m : Int) : Int := if m < 0 ∨ 1048576 < m then 2 else if okAll A need x m.toNat = true then 0 else 50
def getS (A : As) (need x : Nat) (m : Int) : ByteArray := if getE A need x m = 0 then ⟨(bytesAt A x m.toNat).toArray⟩ else ⟨#[]⟩
theorem liesB : LiesB 124 := ⟨by decide, by kernel_rfl⟩
/-- How long the builder behind g is. -/
def bl (g : Nat) (w : World) : Nat := match w.cell? ⟨g, 1, none⟩ with | some (.slice _ n _) => n | _ => 0
theorem bl_is {B b : Nat} {bs : List Value} {w : World} (h : Lib.IsBuilder 124 5 B b bs w) : bl b w = bs.length := by
  obtain ⟨p, hB, v, hbk, hown, hne⟩ : ∃ p, Lib.BuilderAt 124 5 B b p bs w := by
    rcases h with h | h
    · exact ⟨_, h⟩
    · exact ⟨_, h⟩
  have c1 : w.cell? ⟨b, 1, none⟩ = some v := by rw [Lib.cell_of_heap hbk]; rfl
  unfold bl
  rw [c1]
  rcases hown.2 with ⟨rfl, hz⟩ | ⟨g, cap, cur, hv, r⟩
  · exact hz.symm
  · rw [hv]
theorem cells_in {A : As} {p i r q y : Nat} {f : Pg} {w : World} (hA : A i = some f) (hb : Blk w p 95 (pcs f)) (hy : y = 256 * i + r) (hq : r + q ≤ 256) :
    ∀ j u, (Lib.byteCells (bytesAt A y q))[j]? = some u → w.cell? ((⟨p, r, none⟩ : Addr).add j) = some u := by
  intro j u hu
  unfold Lib.byteCells at hu
  rw [List.getElem?_map] at hu
  by_cases hj : j < q
  · rw [bytesAt_get _ _ _ _ hj] at hu
    simp only [Option.map_some, Option.some.injEq] at hu
    rw [Addr.add_mid, hb.cell, pcs_get f _ (by omega), ← hu, hy, Nat.add_assoc, byteAt_pg hA (by omega)]
  · rw [List.getElem?_eq_none (by rw [bytesAt_length]; omega)] at hu
    cases hu
theorem getS_not {A : As} {need x : Nat} {m : Int} (h : getE A need x m ≠ 0) : getS A need x m = ⟨#[]⟩ := by unfold getS; rw [if_neg h]

set_option maxHeartbeats 2000000 in
set_option maxRecDepth 100000 in
theorem get_any (b e n need : Nat) (hn : need < 8) (A : As) (x : Nat) (m : Int) (hx : x < 4294967296) (w : World) (h : SpaceAt w b e n A) :
    Calls Tryz.prog 44 #[.pointer (some ⟨b + 1, 0, none⟩), .int .u32 (x : Int), .int .i64 m, mayV need] w fun e' w' =>
      e' = .returned (.tuple #[.string (getS A need x m), .int .i64 (getE A need x m)]) ∧ Below w.heap.size w w' := by
  have HS := Lib.hid h
  obtain ⟨pg, h⟩ := h
  have H := Lib.hid h
  have HX := Lib.hid hx
  obtain ⟨mv, hmv⟩ : ∃ mv, mv = mayV need := ⟨_, rfl⟩
  rw [← hmv]
  have HMV := Lib.hid hmv
  clear hmv
  by_cases hneg : m < 0
  · have hr : getE A need x m = 2 := by unfold getE; rw [if_pos (Or.inl hneg)]
    have hA := getS_not (A := A) (need := need) (x := x) (m := m) (by rw [hr]; decide)
    rw [hr, hA]
    clear h hx hr hA
    go_enter Tryz.func44, Tryz.ntmps44
    go_wp2
    go_ret2
    exact ⟨rfl, Below.refl _ _⟩
  by_cases hbig : 1048576 < m
  · have hr : getE A need x m = 2 := by unfold getE; rw [if_pos (Or.inr hbig)]
    have hA := getS_not (A := A) (need := need) (x := x) (m := m) (by rw [hr]; decide)
    rw [hr, hA]
    clear h hx hr hA
    go_enter Tryz.func44, Tryz.ntmps44
    go_wp2
    go_ret2
    exact ⟨rfl, Below.refl _ _⟩
  obtain ⟨k, rfl⟩ := Int.eq_ofNat_of_zero_le (show 0 ≤ m by omega)
  have hAll := all_any b e n need hn pg A x k hx (by omega) w h
  rw [← HMV.out] at hAll
  have hg1 : decide ((k : Int) < 0) = false := by simp
  have hg2 : decide ((1048576 : Int) < (k : Int)) = false := by simpa using hbig
  have HK : Hid (k ≤ 1048576) := Lib.hid (by omega)
  have hge : getE A need x (k : Int) = if okAll A need x k = true then 0 else 50 := by unfold getE; rw [if_neg (by omega), Int.toNat_natCast]
  cases hok : okAll A need x k with
  | false =>
    rw [hok] at hge hAll
    have hr : getE A need x (k : Int) = 50 := hge
    have hA := getS_not (A := A) (need := need) (x := x) (m := (k : Int)) (by rw [hr]; decide)
    rw [hr, hA]
    clear h hx hr hA hge hok hneg hbig
    go_enter Tryz.func44, Tryz.ntmps44
    go_wp2_with (go_at_call 77; refine hAll.mono ?_; rintro e w' ⟨rfl, rfl⟩)
    go_ret2
    exact ⟨rfl, Below.refl _ _⟩
  | true =>
    rw [hok] at hge hAll
    have hr : getE A need x (k : Int) = 0 := hge
    have hA : getS A need x (k : Int) = ⟨(bytesAt A x k).toArray⟩ := by unfold getS; rw [if_pos hr, Int.toNat_natCast]
    rw [hr, hA]
    have HOK := Lib.hid hok
    have HG := Lib.hid (Grow_new liesB w (k : Int) (by omega) (by omega))
    clear h hx hr hA hge hok hneg hbig
    go_enter Tryz.func44, Tryz.ntmps44
    go_wp2_with (first
      | (go_at_call 77; refine hAll.mono ?_; rintro e w' ⟨rfl, rfl⟩)
      | (go_at_call 78; refine HG.out.mono ?_; rintro e w1 ⟨rfl, hB1, hb1⟩))
    obtain ⟨w, rfl⟩ : ∃ w, w = w' := ⟨_, rfl⟩
    have HB1 := Lib.hid hB1
    have Hb1 := Lib.hid hb1
    have HSz := Lib.hid H.out.hi
    obtain ⟨G, hG⟩ : ∃ G, G = w.heap.size := ⟨_, rfl⟩
    have HG' := Lib.hid hG
    clear hB1 hb1 HG
    rw [← hG] at HB1
    rw [← hG]
    clear hG
    go_loopw [30] (fun t30 wr => ∃ d : Nat, Hid (d ≤ k) ∧ Hid (Lib.IsBuilder 124 5 G G (Lib.byteCells (bytesAt A x d)) wr) ∧ Hid (Below w.heap.size w wr)) (fun _ wr => k - bl G wr)
    case atStart => exact ⟨0, Lib.hid (Nat.zero_le _), HB1, Hb1⟩
    case round =>
      obtain ⟨d, HD, HBd, Hbd⟩ := hrel
      have hlen : (Lib.byteCells (bytesAt A x d)).length = d := by rw [Lib.byteCells_length, bytesAt_length]
      have hLen := blen_any G G _ wr HBd.out
      rw [hlen] at hLen
      by_cases hdk : (d : Int) < (k : Int)
      · have hlt : d < k := by omega
        have hk : okPg A need ((x + d) / 256) = true := (okAll_iff _ _ _ _).1 HOK.out d hlt
        obtain ⟨f0, hf0, _⟩ := okPg_some hk
        obtain ⟨i, hi⟩ : ∃ i, i = (x + d) / 256 := ⟨_, rfl⟩
        have hPr := H.out.below Hbd.out HSz.out
        rw [← hi] at hf0 hk
        cases hp : pg i with
        | none => have := hPr.none i hp; rw [hf0] at this; cases this
        | some p =>
          obtain ⟨q1, q2, q3, f, q4, q5⟩ := hPr.page i p hp
          have hPc := piece_any b e n p pg _ (x + d) (k - d) (by omega) (by have := HK.out; omega) wr hPr (by rw [← hi]; exact hp)
          obtain ⟨y, hy⟩ : ∃ y : Int, y = ((x + d : Nat) : Int) := ⟨_, rfl⟩
          obtain ⟨z, hz⟩ : ∃ z : Int, z = ((k - d : Nat) : Int) := ⟨_, rfl⟩
          rw [← hy, ← hz] at hPc
          obtain ⟨r, hr⟩ : ∃ r, r = (x + d) % 256 := ⟨_, rfl⟩
          rw [← hr] at hPc
          obtain ⟨q, hqq⟩ : ∃ q, q = min (r + (k - d)) 256 - r := ⟨_, rfl⟩
          rw [← hqq] at hPc
          have e1 : IntKind.u32.wrap (d : Int) = (d : Int) := by rw [IntKind.wrap_u32]; have := HK.out; omega
          have e2 : ((x : Int) + (d : Int)) % 4294967296 = y := by omega
          have e3 : IntKind.i64.wrap ((k : Int) - (d : Int)) = z := by rw [IntKind.wrap_i64]; have := HK.out; omega
          have hq1 : 1 ≤ q := by omega
          have hq2 : d + q ≤ k := by omega
          have HW := Lib.hid (write_any liesB G G (Lib.byteCells (bytesAt A x d)) ⟨p, r, none⟩ q (257 - r) (Lib.byteCells (bytesAt A (x + d) q)) wr HBd.out (by rw [Lib.byteCells_length, bytesAt_length])
            (cells_in q4 q5 (by omega) (by omega)) (by have := HSz.out; have := HG'.out; show p ≠ G; omega) (Lib.byteCells_one _) (by rw [hlen]; have := HK.out; omega) (by rw [HG'.out]; exact Hbd.out.size))
          rw [← Lib.byteCells_append, ← bytesAt_add] at HW
          have HQ := Lib.hid (And.intro hq1 hq2)
          have hMeas : Hid (bl G wr = d) := Lib.hid (by rw [bl_is HBd.out, hlen])
          clear hlt hk hf0 hi hPr hp q1 q2 q3 q4 q5 hy hz hr hqq hq1 hq2 hlen
          go_wp2_with (first
            | (go_at_call 79; refine hLen.mono ?_; rintro e w2 ⟨rfl, rfl⟩)
            | (go_at_call 81; refine hPc.mono ?_; rintro e w2 ⟨rfl, rfl⟩)
            | (go_at_call 80; refine HW.out.mono ?_; rintro e w2 ⟨rfl, hB2, hb2⟩))
          refine ⟨⟨d + q, Lib.hid HQ.out.2, Lib.hid (Or.inr hB2), Lib.hid (Hbd.out.trans (by rw [← HG'.out]; exact hb2))⟩, ?_⟩
          rw [hMeas.out, bl_is (Or.inr hB2), Lib.byteCells_length, bytesAt_length]
          have := HQ.out
          omega
      · have hdd : d = k := by have := HD.out; omega
        subst hdd
        have HSt := Lib.hid (string_any G G (bytesAt A x d) wr HBd.out (by rw [HG'.out]; exact Hbd.out.size))
        clear hlen
        go_wp2_with (first
            | (go_at_call 79; refine hLen.mono ?_; rintro e w2 ⟨rfl, rfl⟩)
            | (go_at_call 82; refine HSt.out.mono ?_; rintro e w2 ⟨rfl, hb2⟩))
        go_ret2
        exact ⟨rfl, Hbd.out.trans (by rw [← HG'.out]; exact hb2)⟩

set_option maxHeartbeats 1000000 in
set_option maxRecDepth 100000 in
theorem read_any (b e n : Nat) (A : As) (x : Nat) (m : Int) (hx : x < 4294967296) (w : World) (h : SpaceAt w b e n A) :
    Calls Tryz.prog 105 #[.pointer (some ⟨b + 1, 0, none⟩), .int .u32 (x : Int), .int .i64 m] w fun e' w' =>
      e' = .returned (.tuple #[.string (getS A 1 x m), .int .i64 (getE A 1 x m)]) ∧ Below w.heap.size w w' := by
  have hP := get_any b e n 1 (by decide) A x m hx w h
  rw [show mayV 1 = .func (.func 45) #[.int .u8 1] #[] from rfl] at hP
  clear hx h
  go_enter Tryz.func105, Tryz.ntmps105
  go_wp2_with (go_at_call 44; refine hP.mono ?_; rintro e w' ⟨rfl, h2⟩)
  go_ret2
  exact ⟨rfl, h2⟩
set_option maxHeartbeats 1000000 in
set_option maxRecDepth 100000 in
theorem fetch_any (b e n : Nat) (A : As) (x : Nat) (hx : x < 4294967296) (w : World) (h : SpaceAt w b e n A) :
    Calls Tryz.prog 54 #[.pointer (some ⟨b + 1, 0, none⟩), .int .u32 (x : Int)] w fun e' w' =>
      e' = .returned (.tuple #[.string (getS A 4 x 8), .int .i64 (getE A 4 x 8)]) ∧ Below w.heap.size w w' := by
  have hP := get_any b e n 4 (by decide) A x 8 hx w h
  rw [show mayV 4 = .func (.func 45) #[.int .u8 4] #[] from rfl] at hP
  clear hx h
  go_enter Tryz.func54, Tryz.ntmps54
  go_wp2_with (go_at_call 44; refine hP.mono ?_; rintro e w' ⟨rfl, h2⟩)
  go_ret2
  exact ⟨rfl, h2⟩
end Go.Proofs.YtgdbhmlmioihpaaGreatDoor
end

/- Bytes of one's own as a text; bytes 0. -/
section
set_option linter.unusedVariables false
namespace Go.Proofs.YtgdbhmlmioihpaaGreatDoor
open Go.RowKit Go.Maps

theorem own_text {B : Nat} {l : List UInt8} {v : Value} {w : World} (h : w.ownsRow B 5 1 v l.length (Lib.byteCells l)) : (convert 24 9 v).run Tryz.prog w = .ok (.string ⟨l.toArray⟩) w := by
  rcases h.2 with ⟨rfl, h0⟩ | ⟨g, cap, cur, rfl, hBg, hg, hnc, hcm, hcs, htk⟩
  · have : l = [] := by simpa using h0
    subst this
    exact Lib.run_convert_nil_bytes w 24 9 5 0 Tryz.underlying24 Tryz.underlying5 Tryz.underlying9
  · exact run_convert_bytes_back (P := Tryz.prog) w 24 9 5 ⟨g, 0, none⟩ cap l Tryz.underlying24 Tryz.underlying5 Tryz.underlying9 (Lib.bytes_of_row hg (by simpa using htk))
theorem zeros_row {B n : Nat} {v : Value} {w : World} (h : w.ownsRow B 5 1 v n (madeCells (Value.int .u8 0).cells (n * 1)).toList) : w.ownsRow B 5 1 v (List.replicate n (0 : UInt8)).length (Lib.byteCells (List.replicate n (0 : UInt8))) := by
  have e : (madeCells (Value.int .u8 0).cells (n * 1)).toList = Lib.byteCells (List.replicate n 0) := by
    rw [show Lib.byteCells (List.replicate n 0) = List.replicate n (Value.int .u8 0) by simp [Lib.byteCells], List.eq_replicate_iff]
    refine ⟨by simp [madeCells], fun b hb => ?_⟩
    simp only [madeCells, Array.toList_map, List.mem_map] at hb
    obtain ⟨x, _, rfl⟩ := hb
    simp [Value.cells, Nat.mod_one]
  rw [e] at h
  simpa using h

theorem perm_new (p : Nat) (h : p < 8) : ((newPg p) 256).toNat = p := by
  unfold newPg
  rw [if_pos rfl]
  simp
  omega
end Go.Proofs.YtgdbhmlmioihpaaGreatDoor
end
