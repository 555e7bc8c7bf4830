/- The document's own Pages: the same as the program's. -/
import Derived.Test.YtgdbhmlmioihpaaGreatDoorX26
import Derived.Test.YtgdbhmlmioihpaaGreatDoorX35
set_option linter.unusedVariables false
namespace Go.Proofs.YtgdbhmlmioihpaaGreatDoor
open Go.RowKit Go.Maps

def numU (e : RP) : Int := 256 * (e.i : Int)
theorem RefP.nums {w : World} {B g c : Nat} {a : Option Addr} {L : List RP} {A : As} (h : RefP w B g a c L A) : L.map numU = pagesOf A := by
  have h1 : (L.map numU).Pairwise (· < ·) := by
    have := h.up
    rw [List.pairwise_map] at this ⊢
    exact this.imp (fun h => by unfold numU; omega)
  have hm : ∀ x, x ∈ L.map numU ↔ x ∈ pagesOf A := fun x => by
    rw [mem_pagesOf, List.mem_map]
    constructor
    · rintro ⟨e, he, rfl⟩
      obtain ⟨f, hf, hp⟩ := h.page e he
      exact ⟨e.i, hp.lt, by rw [hf]; rfl, rfl⟩
    · rintro ⟨i, _, hs, rfl⟩
      obtain ⟨e, he, rfl⟩ := List.mem_map.1 (h.has i hs)
      exact ⟨e, he, rfl⟩
  have hn : (L.map numU).Nodup := h1.imp (fun h => by omega)
  have hp : (pagesOf A).Nodup := (pagesOf_lt A).imp (fun h => by omega)
  exact List.Perm.eq_of_pairwise (le := fun a b => a < b) (fun a b _ _ h1 h2 => by omega) h1 (pagesOf_lt A) ((List.perm_ext_iff_of_nodup hn hp).2 hm)
theorem info_w32 : (Tryz.prog.info? 23).map (fun i => (i.zero, i.size, i.bytes)) = some (some (.int .u32 0), 1, 4) := by kernel_rfl

set_option maxHeartbeats 4000000 in
set_option maxRecDepth 100000 in
theorem rpages_any (B g : Nat) (A : As) (w : World) (h : RefAt w B g A) :
    Calls Tryz.prog 40 #[.pointer (some ⟨g, 0, none⟩)] w fun r w' => (∃ v, r = .returned v ∧ Words w' w.heap.size v (pagesOf A)) ∧ Below w.heap.size w w' := by
  obtain ⟨a, c, L, h⟩ := h
  have hnum := h.nums
  rw [← hnum]
  have H := Lib.hid h
  have HLen := Lib.hid h.len
  obtain ⟨W0, hW0⟩ : ∃ W0, W0 = w.heap.size := ⟨_, rfl⟩
  have HW0 := Lib.hid hW0
  rw [← hW0]
  obtain ⟨N, hN⟩ : ∃ N, N = L.length := ⟨_, rfl⟩
  have HN := Lib.hid hN
  obtain ⟨i0, hi, hz0, hz1, hz2⟩ := info_parts info_w32
  have HO0 := Lib.hid (World.ownsRow_nil w W0 23 1)
  have HB0 := Lib.hid (show Below W0 w w by rw [hW0]; exact Below.refl _ _)
  clear h hnum hN hW0
  go_enter Tryz.func40, Tryz.ntmps40
  go_wp2_with fail
  go_loopw [3, 4] (fun v3 v4 wr => ∃ (i : Nat) (z : Value), v4 = .int .i64 i ∧ z = v3 ∧ Hid (i ≤ N) ∧ Hid (wr.ownsRow W0 23 1 z i (((L.take i).map numU).map (Value.int .u32))) ∧ Hid (Below W0 w wr)) (fun _ v _ => N - (intOf v).toNat)
  case atStart => exact ⟨0, _, rfl, rfl, Lib.hid (Nat.zero_le _), HO0, HB0⟩
  case round =>
    obtain ⟨i, z, rfl, rfl, HI, HO, HB⟩ := hrel
    clear HO0 HB0
    have Hr : Hid (RefP wr B g a c L A) := Lib.hid (H.out.below (by rw [← HW0.out]; exact HB.out))
    have hc := Hr.out.cell0
    rw [← HN.out] at hc
    by_cases hlt : (i : Int) < (N : Int)
    · have hj : i < L.length := by have := HN.out; omega
      obtain ⟨k, rfl, hk⟩ := Hr.out.addr hj
      obtain ⟨e, he⟩ : ∃ e, L.getD i RP.nought = e := ⟨_, rfl⟩
      have hm : e ∈ L := by rw [← he]; exact Hr.out.mem hj
      obtain ⟨f, hA, hei, c0, _⟩ := Hr.out.three hm
      have ck := hk i hj
      rw [he] at ck
      simp only [ptrP] at ck
      obtain ⟨y, hy⟩ : ∃ y : Int, y = 256 * (e.i : Int) := ⟨_, rfl⟩
      rw [← hy] at c0
      have HT : Hid (((L.take (i + 1)).map numU).map (Value.int .u32) = ((L.take i).map numU).map (Value.int .u32) ++ [.int .u32 y]) := Lib.hid (by
        rw [take_snoc L RP.nought i hj, he, hy]; simp [numU])
      have m3 : IntKind.i64.wrap ((i : Int) + 1) = (i : Int) + 1 := by rw [IntKind.wrap_i64]; have := HN.out; have := HLen.out; omega
      have HLT : Hid (i < N) := Lib.hid (by omega)
      have hWs : Hid (W0 ≤ wr.heap.size) := Lib.hid (by rw [HW0.out]; exact HB.out.size)
      have K3 : Hid (i + 1 ≤ maxLen) := Lib.hid (by unfold maxLen; have := HN.out; have := HLen.out; omega)
      have K4 : Hid ((i + 1) * 4 ≤ 140737488355328) := Lib.hid (by have := HN.out; have := HLen.out; omega)
      clear hk hA hei he hm hy hj
      go_wp2_with (at_builtin; refine wpList_append_own _ rfl _ _ 22 rfl W0 23 i0 (.int .u32 0) 1 4 Tryz.underlying22 hi hz0 hz1 hz2 rfl (by decide) _ _ _ rfl (HO.out.alloc _) ⟨wr.heap.size, 0, none⟩ 1 1 [.int .u32 y] rfl rfl ?c1 ?c2 K3.out K4.out ?c5 ?_)
      case c1 => exact World.news_of_block (cs := #[.int .u32 y]) (t := 23) (fr := (0, 0)) (heap_alloc_new wr _)
      case c2 => intro u hu; simp only [List.mem_cons, List.not_mem_nil, or_false] at hu; rcases hu with rfl; rfl
      case c5 => have := hWs.out; simp; omega
      intro z' w2 hown' hgrow' _
      have hb3 := Lib.hid (appU_below HB.out hWs.out HO.out hgrow')
      have HO2 : Hid (w2.ownsRow W0 23 1 z' (i + 1) (((L.take (i + 1)).map numU).map (Value.int .u32))) := Lib.hid (by rw [HT.out]; simpa using hown')
      have HI2 : Hid (i + 1 ≤ N) := Lib.hid (by have := HLT.out; omega)
      clear hown' hgrow' HO K3 K4
      go_wp2
      go_roundw
      case rel => exact ⟨i + 1, z', by go_num, rfl, HI2, HO2, hb3⟩
      case measure => simp [intOf]; have := HLT.out; omega
    · have HE : Hid (Words wr W0 z (L.map numU)) := Lib.hid (by
        have e : i = L.length := by have := HI.out; have := HN.out; omega
        refine Words.of_own ?_
        have h := HO.out
        rw [e, List.take_length] at h
        rw [List.length_map]
        exact h)
      go_wp2
      go_ret
      exact ⟨⟨_, rfl, HE.out⟩, HB.out⟩
end Go.Proofs.YtgdbhmlmioihpaaGreatDoor
