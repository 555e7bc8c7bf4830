/- Some texts of one proof, one behind the other; each has its own head below. -/
import Derived.Test.YtgdbhmlmioihpaaDoorX00
import Derived.StillTailTactics
/- metBy, isPage, pageAt, piece, New. -/
section
set_option linter.unusedVariables false
namespace Go.Proofs.YtgdbhmlmioihpaaDoor
open Go.RowKit Go.Maps

theorem heap_alloc_new' (w : World) (o : Obj) (i : Nat) (h : i = w.heap.size) : (w.alloc o).heap[i]? = some o := by subst h; exact heap_alloc_new w o
/-- The method value that asks for a need. -/
def mayV (need : Nat) : Value := .func (.func 43) #[.int .u8 (need : Int)] #[]

theorem bits_and : ∀ (x : Fin 256) (need : Fin 8), bits BinOp.and IntKind.u8 (x.val : Int) (need.val : Int) = ((x.val &&& need.val : Nat) : Int) := by decide +kernel
theorem bits_met (need : Nat) (f : Pg) (hn : need < 8) : (bits BinOp.and IntKind.u8 ((f 256).toNat : Int) (need : Int) == (need : Int)) = met need f := by
  have h := bits_and ⟨(f 256).toNat, UInt8.toNat_lt _⟩ ⟨need, hn⟩
  simp only at h
  rw [h]
  unfold met
  rw [Bool.eq_iff_iff, beq_iff_eq, beq_iff_eq]
  exact Int.ofNat_inj

set_option maxHeartbeats 1000000 in
set_option maxRecDepth 100000 in
theorem metBy_any (need p : Nat) (f : Pg) (w : World) (hn : need < 8) (h : Blk w p 96 (pcs f)) :
    Calls Tryd.prog 43 #[.int .u8 (need : Int), .pointer (some ⟨p, 0, none⟩)] w fun e w' => e = .returned (.bool (met need f)) ∧ w' = w := by
  have c : w.cell? ⟨p, 256, none⟩ = some (.int .u8 ((f 256).toNat : Int)) := by rw [h.cell, pcs_get f 256 (by decide)]
  clear h
  go_enter Tryd.func43, Tryd.ntmps43
  go_wp2
  go_ret
  exact ⟨by rw [bits_met need f hn]; rfl, rfl⟩

set_option maxHeartbeats 1000000 in
set_option maxRecDepth 100000 in
theorem isPage_any (a : Int) (h0 : 0 ≤ a) (h1 : a < 4294967296) (w : World) :
    Calls Tryd.prog 51 #[.int .u32 a] w fun e w' => e = .returned (.bool (decide (a < 1048576 ∧ a % 256 = 0))) ∧ w' = w := by
  have ht : a.tmod 256 = a % 256 := Int.tmod_eq_emod_of_nonneg h0
  clear h0 h1
  go_enter Tryd.func51, Tryd.ntmps51
  go_wp2
  all_goals (go_ret; refine ⟨?_, rfl⟩; simp; first | omega | (rw [Bool.eq_iff_iff]; simp; omega))

set_option maxHeartbeats 1000000 in
set_option maxRecDepth 100000 in
theorem pageAt_any (b e n : Nat) (pg : Nat → Option Nat) (A : As) (x : Nat) (hx : x < 4294967296) (w : World) (h : SpaceP w b e n pg A) :
    Calls Tryd.prog 73 #[.pointer (some ⟨b + 1, 0, none⟩), .int .u32 (x : Int)] w fun e w' => e = .returned (ptrV (pg (x / 256))) ∧ w' = w := by
  have c := h.cell
  obtain ⟨k, hk⟩ : ∃ k : Int, k = 256 * ((x / 256 : Nat) : Int) := ⟨_, rfl⟩
  have hl := h.look k (by omega) (by omega)
  rw [hk, pgk_at, ← hk] at hl
  have hw : ((x : Int) - (x : Int) % 256) % 4294967296 = k := by omega
  clear hk h hx
  go_enter Tryd.func73, Tryd.ntmps73
  go_wp2
  go_ret
  exact ⟨rfl, rfl⟩

set_option maxHeartbeats 1000000 in
set_option maxRecDepth 100000 in
theorem new_any (w : World) : Calls Tryd.prog 4 #[] w fun e w' => e = .returned (.pointer (some ⟨w.heap.size + 1, 0, none⟩)) ∧ SpaceAt w' w.heap.size (w.heap.size + 2) 0 (fun _ => none) ∧ Below w.heap.size w w' ∧ w'.heap.size = w.heap.size + 2 := by
  have hmm := @run_makeMap Tryd.prog
  go_enter Tryd.func4, Tryd.ntmps4
  go_wp2
  go_ret
  refine ⟨rfl, ⟨fun _ => .none, ?_, Nat.le_refl _, by simp, ?_, fun _ _ => rfl, (fun _ _ h => by cases h), (fun _ _ _ h => by cases h)⟩, ((Below.refl _ w).alloc (Nat.le_refl _) _).alloc (by simp) _, by simp⟩
  · unfold Blk
    rw [heap_alloc_new' _ _ _ (by simp)]
  · exact (MapIs.made w).same (Below.heap_alloc _ _ _ (by simp))
end Go.Proofs.YtgdbhmlmioihpaaDoor
end

/- piece; all: may every byte of a range be asked? -/
section
set_option linter.unusedVariables false
namespace Go.Proofs.YtgdbhmlmioihpaaDoor
open Go.RowKit Go.Maps

theorem infoU8 : (Tryd.prog.info? 5).map (·.size) = some 1 := by kernel_rfl
theorem slice_page (p r : Nat) (hr : r < 256) (h : Int) (h1 : (r : Int) ≤ h) (h2 : h ≤ 256) (w : World) :
    (Instr.sliceAt 96 (.pointer (some ⟨p, 0, none⟩)) (some (.int .i64 (r : Int))) (some (.int .i64 h)) none).run Tryd.prog w = .ok (.slice (some ⟨p, r, none⟩) (h.toNat - r) (257 - r)) w := by
  have hsz : (sizeOf 5).run Tryd.prog w = .ok 1 w := by
    have hi := infoU8
    cases hq : Tryd.prog.info? 5 with
    | none => simp [hq] at hi
    | some j =>
      have hs : j.size = 1 := by simpa [hq] using hi
      simp [sizeOf, typeInfo, hq, hs]
  have e1 : Tryd.prog.arrayLen 96 = 257 := by kernel_rfl
  have e2 : Tryd.prog.elem 96 = 5 := by kernel_rfl
  have h5 : ¬ 257 = (r : Int).toNat := by omega
  rw [run_sliceAt_array_lh w 96 ⟨p, 0, none⟩ (by kernel_rfl) .i64 .i64 (r : Int) h (by omega) h1 (by rw [e1]; omega), e2, hsz, e1]
  simp only [Result.andThen, slicedAt]
  rw [if_neg h5, Addr.add_mid]
  simp

set_option maxHeartbeats 1000000 in
set_option maxRecDepth 100000 in
theorem piece_any (b e n p : Nat) (pg : Nat → Option Nat) (A : As) (x m : Nat) (hx : x < 4294967296) (hm : m ≤ 1099511627776) (w : World) (h : SpaceP w b e n pg A) (hp : pg (x / 256) = some p) :
    Calls Tryd.prog 60 #[.pointer (some ⟨b + 1, 0, none⟩), .int .u32 (x : Int), .int .i64 (m : Int)] w fun e w' =>
      e = .returned (.slice (some ⟨p, x % 256, none⟩) (min (x % 256 + m) 256 - x % 256) (257 - x % 256)) ∧ w' = w := by
  have hP := pageAt_any b e n pg A x hx w h
  rw [hp, show ptrV (some p) = .pointer (some ⟨p, 0, none⟩) from rfl] at hP
  obtain ⟨r, hr⟩ : ∃ r, r = x % 256 := ⟨_, rfl⟩
  have hr1 : (x : Int) % 256 = (r : Int) := by omega
  have hr2 : (r : Int) < 256 := by omega
  have hr3 : IntKind.i64.wrap (r : Int) = (r : Int) := by rw [IntKind.wrap_i64]; omega
  have hr4 : IntKind.i64.wrap ((r : Int) + (m : Int)) = (r : Int) + (m : Int) := by rw [IntKind.wrap_i64]; omega
  by_cases hmin : (r : Int) + (m : Int) ≤ 256
  · have hS := fun W => slice_page p r (by omega) ((r : Int) + (m : Int)) (by omega) hmin W
    have hq : ((r : Int) + (m : Int)).toNat - r = min (r + m) 256 - r := by omega
    rw [← hr]
    rw [hq] at hS
    clear hr hx hm hq hp h
    go_enter Tryd.func60, Tryd.ntmps60
    go_wp2_with (go_at_call 73; refine hP.mono ?_; rintro e w' ⟨rfl, rfl⟩)
    go_ret
    exact ⟨rfl, rfl⟩
  · have hS := fun W => slice_page p r (by omega) 256 (by omega) (by omega) W
    have hq : (256 : Int).toNat - r = min (r + m) 256 - r := by omega
    rw [← hr]
    rw [hq] at hS
    clear hr hx hm hq hp h
    go_enter Tryd.func60, Tryd.ntmps60
    go_wp2_with (go_at_call 73; refine hP.mono ?_; rintro e w' ⟨rfl, rfl⟩)
    go_ret
    exact ⟨rfl, rfl⟩

theorem met_none {A : As} {need i : Nat} (h : A i = none) : okPg A need i = false := by unfold okPg; rw [h]
theorem met_some {A : As} {need i : Nat} {f : Pg} (h : A i = some f) : okPg A need i = met need f := by unfold okPg; rw [h]

set_option maxHeartbeats 1000000 in
set_option maxRecDepth 100000 in
theorem all_any (b e n need : Nat) (hn : need < 8) (pg : Nat → Option Nat) (A : As) (x m : Nat) (hx : x < 4294967296) (hm : m ≤ 1099511627776) (w : World) (h : SpaceP w b e n pg A) :
    Calls Tryd.prog 56 #[.pointer (some ⟨b + 1, 0, none⟩), .int .u32 (x : Int), .int .i64 (m : Int), mayV need] w fun e w' =>
      e = .returned (.bool (okAll A need x m)) ∧ w' = w := by
  have H := Lib.hid h
  have c := h.cell
  have hx64 : IntKind.u64.wrap (x : Int) = x := by rw [IntKind.wrap_u64]; omega
  have hm64 : IntKind.u64.wrap (m : Int) = m := by rw [IntKind.wrap_u64]; omega
  obtain ⟨en, hen⟩ : ∃ en : Int, en = (x : Int) + (m : Int) := ⟨_, rfl⟩
  have he64 : IntKind.u64.wrap ((x : Int) + (m : Int)) = en := by rw [IntKind.wrap_u64]; omega
  obtain ⟨k0, hk0⟩ : ∃ k0 : Int, k0 = 256 * ((x / 256 : Nat) : Int) := ⟨_, rfl⟩
  have hka : ((x : Int) - (x : Int) % 256) % 4294967296 = k0 := by omega
  have HKA := Lib.hid hka
  have HE := Lib.hid hen
  have HK0 := Lib.hid hk0
  have HX := Lib.hid hx
  have HM := Lib.hid hm
  have HMay : mayV need = .func (.func 43) #[.int .u8 (need : Int)] #[] := rfl
  rw [HMay]
  clear h hx hm hen hk0 HMay hka
  go_enter Tryd.func56, Tryd.ntmps56
  by_cases hm0 : (m : Int) = 0
  · have hb0 : ((m : Int) == 0) = true := by simpa using hm0
    have hr : okAll A need x m = true := by
      have : m = 0 := by omega
      rw [this]; rfl
    clear hm0
    go_wp2
    go_ret
    exact ⟨by rw [hr]; rfl, rfl⟩
  have hb0 : ((m : Int) == 0) = false := by simpa using hm0
  have HM0 := Lib.hid hm0
  clear hm0
  go_wp2
  go_loopw [10, 11] (fun t10 t11 wr => ∃ (i : Nat) (k : Int), Hid (k = 256 * (i : Int)) ∧ t10 = .int .u32 k ∧ Hid (k < 4294967296) ∧ Hid (x / 256 ≤ i) ∧ Hid (∀ j, x / 256 ≤ j → j < i → okPg A need j = true) ∧ wr = w) (fun t10 _ _ => (en - intOf t10).toNat)
  case atStart => exact ⟨x / 256, k0, HK0, by rw [HKA.out], Lib.hid (by have := HK0.out; have := HX.out; omega), Lib.hid (Nat.le_refl _), Lib.hid (fun j h1 h2 => by omega), rfl⟩
  case round =>
    obtain ⟨i, k, HK, rfl, HL, HI, HA, rfl⟩ := hrel
    have hk64 : IntKind.u64.wrap k = k := by rw [IntKind.wrap_u64]; have := HK.out; have := HL.out; omega
    by_cases hlt : k < en
    · have hl := H.out.look k (by have := HK.out; omega) HL.out
      rw [HK.out, pgk_at, ← HK.out] at hl
      cases hp : pg i with
      | none =>
        rw [hp] at hl
        have hl' : (Instr.lookup 41 (.map (some b)) (.int .u32 k) false).run Tryd.prog wr = .ok (.pointer none) wr := hl
        have hr : okAll A need x m = false := okAll_page A need x m i HI.out (by have := HK.out; have := HE.out; omega) (by have := HM0.out; omega) (met_none (H.out.none i hp))
        clear hl hp
        go_wp2
        go_ret
        exact ⟨by rw [hr]; rfl, rfl⟩
      | some p =>
        rw [hp] at hl
        have hl' : (Instr.lookup 41 (.map (some b)) (.int .u32 k) false).run Tryd.prog wr = .ok (.pointer (some ⟨p, 0, none⟩)) wr := hl
        obtain ⟨q1, q2, q3, f, q4, q5⟩ := H.out.page i p hp
        have hM := metBy_any need p f wr hn q5
        have HS := Lib.hid (met_some (need := need) q4)
        have hstep : (k + 256) % 4294967296 = k + 256 := by have := HK.out; omega
        have HN : Hid (k + 256 < 4294967296) := Lib.hid (by have := HK.out; omega)
        obtain ⟨mt, hmt⟩ : ∃ mt, mt = met need f := ⟨_, rfl⟩
        rw [← hmt] at hM HS
        clear hl hp q1 q2 q3 q4 q5 hmt
        cases mt with
        | false =>
          have hr : okAll A need x m = false := okAll_page A need x m i HI.out (by have := HK.out; have := HE.out; omega) (by have := HM0.out; omega) HS.out
          go_wp2_with (go_at_call 43; refine hM.mono ?_; rintro e w' ⟨rfl, rfl⟩)
          go_ret
          exact ⟨by rw [hr]; rfl, rfl⟩
        | true =>
          go_wp2_with (go_at_call 43; refine hM.mono ?_; rintro e w' ⟨rfl, rfl⟩)
          go_roundw
          case rel =>
            refine ⟨i + 1, k + 256, Lib.hid (by have := HK.out; omega), rfl, HN, Lib.hid (by have := HI.out; omega), Lib.hid (fun j h1 h2 => ?_), trivial⟩
            rcases Nat.lt_or_ge j i with hj | hj
            · exact HA.out j h1 hj
            · obtain rfl : j = i := by omega
              exact HS.out
          case measure => simp [intOf]; omega
    · have hr : okAll A need x m = true := okAll_pages A need x m (fun j h1 h2 => HA.out j h1 (by have := HK.out; have := HE.out; omega))
      go_wp2
      go_ret
      exact ⟨rfl, rfl⟩
end Go.Proofs.YtgdbhmlmioihpaaDoor
end
