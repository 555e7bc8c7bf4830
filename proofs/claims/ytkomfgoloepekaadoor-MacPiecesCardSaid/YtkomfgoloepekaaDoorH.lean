/- sha.initial, New, Len, Hash.Sum, Sum. -/
import Derived.Test.YtkomfgoloepekaaDoorG
set_option linter.unusedVariables false
namespace Go.Proofs.YtkomfgoloepekaaDoor
open Go.RowKit

theorem heads_cells : u32s Sh.heads = [.int .u32 1779033703, .int .u32 3144134277, .int .u32 1013904242, .int .u32 2773480762, .int .u32 1359893119, .int .u32 2600822924, .int .u32 528734635, .int .u32 1541459225] := rfl
set_option maxHeartbeats 400000 in
set_option maxRecDepth 100000 in
theorem initial_any (w : World) : Calls Tryd.prog 29 #[] w fun e w' => e = .returned (.agg #[.int .u32 1779033703, .int .u32 3144134277, .int .u32 1013904242, .int .u32 2773480762, .int .u32 1359893119, .int .u32 2600822924, .int .u32 528734635, .int .u32 1541459225]) ∧ Below w.heap.size w w' := by
  have K1 : Hid (∀ c : Array Value, (w.alloc (.cells c 51)).heap[w.heap.size]? = some (.cells c 51 (0, 0))) := Lib.hid (fun c => heap_alloc_new w _)
  have hb : Below w.heap.size w w := Below.refl _ _
  go_enter Tryd.func29, Tryd.ntmps29
  go_wp2_with (refine wpList_store_row rfl 51 (.tmp 0) (.tmp 1) rfl w.heap.size #[.int .u32 1779033703, .int .u32 3144134277, .int .u32 1013904242, .int .u32 2773480762, .int .u32 1359893119, .int .u32 2600822924, .int .u32 528734635, .int .u32 1541459225] rfl rfl 51 _ (K1.out _) info8 rfl (by decide) ?_)
  have hres := results_cell_row (P := Tryd.prog) (fn := Tryd.f29) Tryd.results29
  refine bodyPost_ret (v := .agg #[.int .u32 1779033703, .int .u32 3144134277, .int .u32 1013904242, .int .u32 2773480762, .int .u32 1359893119, .int .u32 2600822924, .int .u32 528734635, .int .u32 1541459225]) ?h1 ?h2 ?h3
  case h1 =>
    refine hres _ _ w.heap.size 51 _ (0, 0) (.array 8 48) ?_ (heap_alloc_new w _) Tryd.underlying51 rfl info8
    rfl
  case h2 => rfl
  case h3 => exact ⟨rfl, hb.alloc (Nat.le_refl _) _⟩

theorem zeroHash (w : World) : (zeroValue 55).run Tryd.prog w = .ok (.agg (hcells (List.replicate 8 0) (List.replicate 64 0) 0).toArray) w := by kernel_rfl
theorem infoHash : (Tryd.prog.info? 55).map (·.size) = some 73 := by kernel_rfl
set_option maxHeartbeats 400000 in
set_option maxRecDepth 100000 in
theorem new_any (w : World) : Calls Tryd.prog 20 #[] w fun e w' => ∃ g, e = .returned (.pointer (some ⟨g, 0, none⟩)) ∧ w.heap.size ≤ g ∧ HashOf w' g [] ∧ Below w.heap.size w w' := by
  obtain ⟨Z, hZ⟩ : ∃ Z, Z = (hcells (List.replicate 8 0) (List.replicate 64 0) 0).toArray := ⟨_, rfl⟩
  have HZ := zeroHash
  rw [← hZ] at HZ
  have hz8 : ¬ Z.size < 8 := by rw [hZ]; decide
  have HE : Hid ((((((((Z.setIfInBounds 0 (Value.int IntKind.u32 1779033703)).setIfInBounds 1 (Value.int IntKind.u32 3144134277)).setIfInBounds 2 (Value.int IntKind.u32 1013904242)).setIfInBounds 3 (Value.int IntKind.u32 2773480762)).setIfInBounds 4 (Value.int IntKind.u32 1359893119)).setIfInBounds 5 (Value.int IntKind.u32 2600822924)).setIfInBounds 6 (Value.int IntKind.u32 528734635)).setIfInBounds 7 (Value.int IntKind.u32 1541459225) = (hcells Sh.heads (List.replicate 64 0) 0).toArray) := by
    rw [hZ]; exact Lib.hid rfl
  clear hZ
  go_enter Tryd.func20, Tryd.ntmps20
  go_wp2_with fail
  refine (initial_any _).mono ?_; rintro e w1 ⟨rfl, hb⟩
  go_wp2
  rw [HE.out]
  go_ret
  exact ⟨w1.heap.size, rfl, hb.size, ⟨List.replicate 64 0, by simp, by intro x hx; simp at hx; omega, rfl, Blk.new w1 55 _⟩, hb.alloc hb.size _⟩

theorem HashOf.lt {w : World} {g : Nat} {l : List Nat} (h : HashOf w g l) : g < w.heap.size := by obtain ⟨r, _, _, _, hb⟩ := h; exact hb.lt
theorem HashOf.cellLen {w : World} {g : Nat} {l : List Nat} (h : HashOf w g l) : w.cell? ⟨g, 72, none⟩ = some (.int .i64 (l.length : Int)) := by
  obtain ⟨r, r1, _, _, hb⟩ := h
  rw [hb.cell]; exact hcells_len (Sh.state_length l) r1
theorem HashOf.keep {w w' : World} {g : Nat} {l : List Nat} (h : HashOf w g l) (hb : w'.heap[g]? = w.heap[g]?) : HashOf w' g l := by
  obtain ⟨r, r1, r2, r3, hk⟩ := h
  exact ⟨r, r1, r2, r3, hb.trans hk⟩
theorem HashOf.below {w w' : World} {g : Nat} {l : List Nat} {B : Nat} (h : HashOf w g l) (hb : Below B w w') (hg : g < B) : HashOf w' g l := h.keep (hb.block g hg)

theorem hsum_nil (w : World) : Calls Tryd.prog 24 #[.pointer none] w fun e w' => e = .returned (.string ⟨#[]⟩) ∧ w = w' := by
  go_enter Tryd.func24, Tryd.ntmps24
  go_wp2
  go_ret
  exact ⟨rfl, rfl⟩
theorem write_nil (v : Value) (w : World) : Calls Tryd.prog 28 #[.pointer none, v] w fun e w' => e = .returned (.int .i64 1) ∧ w = w' := by
  go_enter Tryd.func28, Tryd.ntmps28
  go_wp2
  go_ret
  exact ⟨rfl, rfl⟩

theorem Below.ofGrown {B : Nat} {a b c : World} {g : Nat} (h : Below B a b) (hg : b.grownBy c (some g)) (hB : B ≤ g) (hBs : B ≤ b.heap.size) : Below B a c :=
  ⟨hg.os.trans h.os, hg.tape.trans h.tape, hg.output.trans h.output, Nat.le_trans h.size hg.size, fun i hi => (hg.block i (Nat.lt_of_lt_of_le hi hBs) (fun e => by injection e; omega)).trans (h.block i hi)⟩

set_option maxHeartbeats 1000000 in
set_option maxRecDepth 100000 in
theorem hsum_any (g : Nat) (l : List Nat) (w : World) (hk : Keyed w) (hh : HashOf w g l) (hl : l.length ≤ 4294967296) :
    Calls Tryd.prog 24 #[.pointer (some ⟨g, 0, none⟩)] w fun e w' => e = .returned (.string (str (Sh.sum l))) ∧ Below w.heap.size w w' := by
  have HK := Lib.hid hk
  have HH := Lib.hid hh
  have g72 := hh.cellLen
  obtain ⟨r, r1, r2, r3, hb⟩ := hh
  obtain ⟨C, hC⟩ : ∃ C, C = hcells (Sh.state l) r l.length := ⟨_, rfl⟩
  rw [← hC] at hb
  have HB : Hid (Blk w g 55 C) := Lib.hid hb
  have K1 : Hid ((Tryd.prog.info? 55).map (·.size) = some C.toArray.size) := by rw [infoHash, hC]; exact Lib.hid (by rw [List.size_toArray, hcells_length (Sh.state_length l) r1])
  have HP := Lib.hid (padding_any l.length (by omega))
  have HL := Lib.hid hl
  have HR := Lib.hid (And.intro r1 (And.intro r2 r3))
  have HCC := Lib.hid hC
  obtain ⟨Z, hZ⟩ : ∃ Z, Z = (hcells (List.replicate 8 0) (List.replicate 64 0) 0).toArray := ⟨_, rfl⟩
  have HZ := zeroHash
  rw [← hZ] at HZ
  have K2 : Hid (Z.size = C.toArray.size) := by
    rw [hZ, hC]; exact Lib.hid (by rw [List.size_toArray, List.size_toArray, hcells_length (Sh.state_length l) r1, hcells_length (by simp) (by simp)])
  have K3 : Hid ((w.alloc (.cells Z 55)).heap[w.heap.size]? = some (.cells Z 55 (0, 0))) := Lib.hid (heap_alloc_new w _)
  have K4 : Hid (∀ v ∈ C, v.oneCell' = true) := by
    refine Lib.hid (fun v hv => ?_)
    rw [hC] at hv
    rcases List.mem_append.1 hv with hv | hv
    · rcases List.mem_append.1 hv with hv | hv
      · exact u32s_one _ v hv
      · exact u8s_one _ v hv
    · rw [List.mem_singleton] at hv; subst hv; rfl
  have g72' : (w.alloc (.cells C.toArray 55)).cell? ⟨g, 72, none⟩ = some (.int .i64 (l.length : Int)) := by
    rw [(hb.alloc _).cell, hC]; exact hcells_len (Sh.state_length l) r1
  have hc73 : C.length = 73 := by rw [hC]; exact hcells_length (Sh.state_length l) r1
  have KS : (storeCells ⟨w.heap.size, 0, none⟩ C).run Tryd.prog (w.alloc (.cells Z 55)) = .ok () (w.alloc (.cells C.toArray 55)) := by
    have h := run_storeCells_new (P := Tryd.prog) w 55 Z C.toArray K1.out K2.out (oneAll K4.out)
    simpa using h
  clear hk hb r1 r2 r3 hC hl hZ
  go_enter Tryd.func24, Tryd.ntmps24
  go_wp2_with (refine wpList_load_row rfl 55 (.tmp 7) rfl g rfl 55 C.toArray (0, 0) _ HB.out Tryd.underlying55 rfl K1.out ?_)
  go_wp2_with fail
  obtain ⟨wc, hwc⟩ : ∃ wc, wc = w.alloc (.cells C.toArray 55) := ⟨_, rfl⟩
  have HO : HashOf wc w.heap.size l := by
    obtain ⟨r1, r2, r3⟩ := HR.out
    refine ⟨r, r1, r2, r3, ?_⟩
    rw [hwc, ← HCC.out]; exact Blk.new w _ _
  have hbc : Below w.heap.size w wc := by rw [hwc]; exact (Below.refl _ _).alloc (Nat.le_refl _) _
  have hkc := HK.out.below hbc
  have hgc := HO.lt
  rw [← hwc]
  clear hwc KS K3 HZ K2 K4 K1 hc73 HB HCC HR g72 g72'
  refine (HP.out _).mono ?_; rintro e w2 ⟨rfl, hb2⟩
  have HO2 := HO.below hb2 hgc
  have hk2 := hkc.below hb2
  have hbw2 := hbc.trans (hb2.mono hbc.size)
  have hgne : w.heap.size ≠ 0 := by have := HK.out.1; omega
  have HW : Hid (Calls Tryd.prog 23 #[.pointer (some ⟨w.heap.size, 0, none⟩), .string (str (Sh.pad l.length))] w2 fun e w' => e = .returned (.tuple #[]) ∧ HashOf w' w.heap.size (l ++ Sh.pad l.length) ∧ w2.grownBy w' (some w.heap.size)) := by
    have h := write_any (str (Sh.pad l.length)) l w.heap.size w2 hk2 hgne HO2 (by
      have h1 := nats_length (str (Sh.pad l.length))
      rw [nats_str _ (Sh.pad_small _), Sh.pad_length] at h1
      have := HL.out
      omega)
    rw [nats_str _ (Sh.pad_small _)] at h
    exact Lib.hid h
  clear HO hkc hbc hb2 HO2 hk2 hgne HP
  go_wp2_with fail
  refine HW.out.mono ?_; rintro e w3 ⟨rfl, HO3, hg3⟩
  have hb3 := Below.ofGrown hbw2 hg3 (Nat.le_refl _) hbw2.size
  obtain ⟨r', q1, q2, q3, hblk⟩ := HO3
  have HS : Hid (Sh.digest (Sh.state (l ++ Sh.pad l.length)) = Sh.sum l) := Lib.hid rfl
  have HD : Hid (∀ w, Calls Tryd.prog 32 #[.agg (u32s (Sh.state (l ++ Sh.pad l.length))).toArray] w fun e w' => e = .returned (.string (str (Sh.digest (Sh.state (l ++ Sh.pad l.length))))) ∧ Below w.heap.size w w') := Lib.hid (fun w => digest_any _ (Sh.state_length _) (Sh.state_small _) w)
  have HL8 : Hid ((Tryd.prog.info? 51).map (·.size) = some (u32s (Sh.state (l ++ Sh.pad l.length))).length) := by rw [info8, u32s_length, Sh.state_length]; exact Lib.hid rfl
  have hrange : w3.rangeAt w.heap.size 0 (u32s (Sh.state (l ++ Sh.pad l.length))) :=
    rangeAt_blk hblk [] (u32s (Sh.state (l ++ Sh.pad l.length))) (u8s r' ++ [.int .i64 (((l ++ Sh.pad l.length).length : Nat) : Int)]) (by unfold hcells; simp [List.append_assoc])
  clear hblk q1 q2 q3 HW hg3 hbw2
  generalize Sh.state (l ++ Sh.pad l.length) = st at *
  go_wp2_with (refine wpList_load_mid rfl 51 (.tmp 15) rfl w.heap.size 0 rfl (u32s st) _ hrange Tryd.underlying51 rfl HL8.out ?_)
  refine (HD.out _).mono ?_; rintro e w4 ⟨rfl, hb4⟩
  go_wp2
  go_ret
  exact ⟨ret_str (by rw [HS.out]), hb3.trans (hb4.mono hb3.size)⟩
end Go.Proofs.YtkomfgoloepekaaDoor
