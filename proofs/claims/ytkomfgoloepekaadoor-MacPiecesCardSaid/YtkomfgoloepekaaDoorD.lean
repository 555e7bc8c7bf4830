/- (sha.state).digest and sha.padding. -/
import Derived.Test.YtkomfgoloepekaaDoorC
import Derived.Lib.BufferRead
import Derived.Laws.OwnMore
import Derived.Deep.AppendLies
set_option linter.unusedVariables false
namespace Go.Proofs.YtkomfgoloepekaaDoor
open Go.RowKit

/-- A text of bytes, as numbers; and back. -/
def str (l : List Nat) : ByteArray := ⟨(l.map UInt8.ofNat).toArray⟩
def nats (s : ByteArray) : List Nat := s.data.toList.map UInt8.toNat
theorem nats_length (s : ByteArray) : (nats s).length = s.size := by unfold nats; rw [List.length_map, Array.length_toList]; rfl
theorem nats_small (s : ByteArray) : ∀ x ∈ nats s, x < 256 := by
  intro x hx
  simp only [nats, List.mem_map] at hx
  obtain ⟨u, _, rfl⟩ := hx
  exact u.toNat_lt
theorem map_back (l : List Nat) (h : ∀ x ∈ l, x < 256) : (l.map UInt8.ofNat).map UInt8.toNat = l := by
  rw [List.map_map]
  conv => rhs; rw [← List.map_id l]
  refine List.map_congr_left (fun x hx => ?_)
  have := h x hx
  simp [Nat.mod_eq_of_lt this]
theorem nats_str (l : List Nat) (h : ∀ x ∈ l, x < 256) : nats (str l) = l := by
  simp only [nats, str]
  exact map_back l h
theorem str_nats (s : ByteArray) : str (nats s) = s := by
  obtain ⟨⟨l⟩⟩ := s
  simp [str, nats, List.map_map, Function.comp_def]
theorem u8s_bytes (l : List Nat) (h : ∀ x ∈ l, x < 256) : u8s l = Lib.byteCells (l.map UInt8.ofNat) := by
  unfold u8s Lib.byteCells
  conv => lhs; rw [← map_back l h]
  simp [List.map_map, Function.comp_def]

theorem infoByte : (Tryd.prog.info? 5).map (fun i => (i.zero, i.size, i.bytes)) = some (some (.int .u8 0), 1, 1) := by kernel_rfl
/-- A slice of the call's own that holds the bytes l. -/
def OwnB (B : Nat) (l : List Nat) (v : Value) (w : World) : Prop := w.ownsRow B 5 1 v l.length (u8s l)
theorem ownB_nil (B : Nat) (w : World) : OwnB B [] (.slice none 0 0) w := World.ownsRow_nil _ _ _ _
theorem ownB_text {B : Nat} {l : List Nat} {v : Value} {w : World} (h : OwnB B l v w) (hs : ∀ x ∈ l, x < 256) : (convert 33 9 v).run Tryd.prog w = .ok (.string (str l)) w := by
  unfold OwnB at h
  rw [u8s_bytes l hs] at h
  rcases h.2 with ⟨rfl, h0⟩ | ⟨g, cap, cur, rfl, hBg, hg, hnc, hcm, hcs, htk⟩
  · have : l = [] := by simpa using h0
    subst this
    exact Lib.run_convert_nil_bytes w 33 9 5 0 Tryd.underlying33 Tryd.underlying5 Tryd.underlying9
  · have := run_convert_bytes_back (P := Tryd.prog) w 33 9 5 ⟨g, 0, none⟩ cap (l.map UInt8.ofNat) Tryd.underlying33 Tryd.underlying5 Tryd.underlying9 (Lib.bytes_of_row hg (by simpa using htk))
    rw [List.length_map] at this
    exact this
theorem ownB_slice {B : Nat} {l : List Nat} {v : Value} {w : World} (h : OwnB B l v w) : ∃ a n c, v = .slice a n c := by
  unfold OwnB at h
  rcases h.2 with ⟨rfl, _⟩ | ⟨g, cap, cur, rfl, _⟩
  · exact ⟨_, _, _, rfl⟩
  · exact ⟨_, _, _, rfl⟩
theorem ownB_len {B : Nat} {l : List Nat} {v : Value} {w : World} (h : OwnB B l v w) : ∃ a c, v = .slice a l.length c := by
  unfold OwnB at h
  rcases h.2 with ⟨rfl, h0⟩ | ⟨g, cap, cur, rfl, _⟩
  · have : l = [] := by simpa [u8s] using h0
    subst this
    exact ⟨none, 0, rfl⟩
  · exact ⟨_, _, rfl⟩
theorem ownB_more {B : Nat} {l m : List Nat} {v : Value} {w : World} {n : Nat} (hn : n = l.length + m.length) (h : w.ownsRow B 5 1 v n (u8s l ++ u8s m)) : OwnB B (l ++ m) v w := by
  subst hn
  unfold OwnB
  rw [List.length_append, show u8s (l ++ m) = u8s l ++ u8s m by simp [u8s]]
  exact h
theorem appB_below {B n : Nat} {l : List Nat} {v : Value} {w wr w1 : World} {X : Obj} (hb : Below B w wr) (hB : B ≤ wr.heap.size) (hown : wr.ownsRow B 5 1 v n (u8s l)) (hg : (wr.alloc X).grownBy w1 v.ownBlock) : Below B w w1 :=
  (hb.alloc hB X).grown hg (by simp; omega) (fun k hk => (hown.lt k hk).1)
theorem ret_str {l l' : ByteArray} (h : l = l') : Ending.returned (.string l) = .returned (.string l') := by rw [h]

set_option maxHeartbeats 400000 in
set_option maxRecDepth 100000 in
theorem digest_any (st : List Nat) (h8 : st.length = 8) (hst : ∀ x ∈ st, x < 4294967296) (w : World) :
    Calls Tryd.prog 32 #[.agg (u32s st).toArray] w fun e w' => e = .returned (.string (str (Sh.digest st))) ∧ Below w.heap.size w w' := by
  obtain ⟨i0, hi, hz0, hz1, hz2⟩ := info_parts infoByte
  obtain ⟨B, hB⟩ : ∃ B, B = w.heap.size := ⟨_, rfl⟩
  obtain ⟨cs, hcs⟩ : ∃ cs, cs = (u32s st).toArray := ⟨_, rfl⟩
  rw [← hcs]
  have HI : Hid (∀ (i : Nat) w, i < 8 → (Instr.index 51 (.agg cs) (.int .i64 (i : Int))).run Tryd.prog w = .ok (.int .u32 (st.getD i 0 : Nat)) w) :=
    Lib.hid (fun i w hi => run_index_one Tryd.underlying51 Tryd.underlying48 info4 cs i hi _ (by rw [hcs]; simpa using u32s_getD st i (by rw [h8]; exact hi)) w)
  have HC : Hid ((Tryd.prog.info? 51).map (·.size) = some cs.size) := by rw [info8, hcs]; exact Lib.hid (by simp [u32s, h8])
  have H8 := Lib.hid h8
  have HS := Lib.hid hst
  have HB := Lib.hid hB
  have K1 : Hid ((w.alloc (.cells cs 51)).heap[w.heap.size]? = some (.cells cs 51 (0, 0))) := Lib.hid (heap_alloc_new w _)
  have hbytes : i0.bytes * 32 ≤ 281474976710656 := by rw [hz2]; decide
  clear h8 hst hcs hB
  go_enter Tryd.func32, Tryd.ntmps32
  go_wp2_with (first
    | (at_make; refine wpList_make_own _ rfl _ _ 33 rfl w.heap.size 5 i0 (.int .u8 0) 1 Tryd.underlying33 hi hz0 hz1 .i64 .i64 _ 32 rfl rfl rfl hbytes (by unfold maxLen; omega) (by simp) ?_; intro w1 hown hgrow)
    | (refine wpList_load_row rfl 51 (.tmp 1) rfl w.heap.size rfl 51 cs (0, 0) _ ?c1 Tryd.underlying51 rfl HC.out ?_))
  case c1 => exact (hgrow.block _ (by simp) (by simp)).trans K1.out
  have HO : Hid (OwnB w.heap.size [] (.slice (some ⟨w.heap.size + 1, 0, none⟩) 0 32) w1) := by
    have h := hown
    rw [show (w.alloc (.cells cs 51)).heap.size = w.heap.size + 1 by simp] at h
    exact Lib.hid h
  have hb : Below w.heap.size w w1 := ((Below.refl _ _).alloc (Nat.le_refl _) _).grown hgrow (by simp) (fun k hk => by simp at hk)
  clear hown hgrow K1
  rw [← HB.out] at HO hb ⊢
  go_loopw [3, 8] (fun t3 t8 wr => ∃ (i : Nat) (z : Value), i ≤ 8 ∧ t8 = .int .i64 i ∧ z = t3 ∧ Hid (OwnB B (Sh.digest (st.take i)) z wr) ∧ Below B w wr) (fun _ t8 _ => (8 - intOf t8).toNat)
  case atStart => exact ⟨0, _, by omega, rfl, rfl, HO, hb⟩
  case round =>
    clear HO hb
    obtain ⟨i, sl, hi8, rfl, rfl, HO, hb⟩ := hrel
    by_cases hlt : i < 8
    · obtain ⟨x, hx⟩ : ∃ x, st.getD i 0 = x := ⟨_, rfl⟩
      have hx2 : x < 4294967296 := by rw [← hx]; exact Sh.getD_lt _ _ (by decide) HS.out _
      have hidx := HI.out i wr hlt
      rw [hx] at hidx
      obtain ⟨X, hX⟩ : ∃ X : Int, X = (x : Int) := ⟨_, rfl⟩
      have x0 : 0 ≤ X := by omega
      have x1 : X < 4294967296 := by omega
      rw [← hX] at hidx
      have hlen : (Sh.digest (st.take i)).length = 4 * i := by rw [Sh.digest_length, List.length_take, H8.out]; omega
      have Hown : Hid (wr.ownsRow B 5 1 sl (4 * i) (u8s (Sh.digest (st.take i)))) := by
        have h := HO.out
        unfold OwnB at h
        rw [hlen] at h
        exact Lib.hid h
      have hBs : B ≤ wr.heap.size := by have := hb.size; have := HB.out; omega
      have HT : Hid (Sh.digest (st.take (i + 1)) = Sh.digest (st.take i) ++ Sh.put4 x) := by
        have hs : st[i]'(by rw [H8.out]; exact hlt) = x := by rw [← hx]; simp [List.getD_eq_getElem?_getD, H8.out, hlt]
        unfold Sh.digest
        rw [List.take_succ_eq_append_getElem (by rw [H8.out]; exact hlt), List.flatMap_append, hs]
        exact Lib.hid (by simp)
      have HP : Hid (u8s (Sh.put4 x) = [.int .u8 (X / 16777216), .int .u8 (X / 65536 % 256), .int .u8 (X / 256 % 256), .int .u8 (X % 256)]) := by
        have e : X / 16777216 = ((x / 2 ^ 24 % 256 : Nat) : Int) := by omega
        rw [e, hX]; exact Lib.hid (by simp [u8s, Sh.put4])
      have Hlen := Lib.hid hlen
      clear hx hx2 hX HO hlen
      go_wp2_with (at_builtin; refine wpList_append_own _ rfl _ _ 33 rfl B 5 i0 (.int .u8 0) 1 1 Tryd.underlying33 hi hz0 hz1 hz2 rfl (by decide) _ _ _ rfl (Hown.out.alloc _) ⟨wr.heap.size, 0, none⟩ 4 4 [.int .u8 (X / 16777216), .int .u8 (X / 65536 % 256), .int .u8 (X / 256 % 256), .int .u8 (X % 256)] rfl rfl ?c1 ?c2 ?c3 ?c4 ?c5 ?_)
      case c1 => exact World.news_of_block (cs := #[.int .u8 (X / 16777216), .int .u8 (X / 65536 % 256), .int .u8 (X / 256 % 256), .int .u8 (X % 256)]) (t := 5) (fr := (0, 0)) (heap_alloc_new wr _)
      case c2 => intro u hu; simp only [List.mem_cons, List.not_mem_nil, or_false] at hu; rcases hu with rfl | rfl | rfl | rfl <;> rfl
      case c3 => unfold maxLen; omega
      case c4 => omega
      case c5 => simp; omega
      intro z' w2 hown' hgrow' _
      have hb2 := appB_below hb hBs Hown.out hgrow'
      have HO2 : Hid (OwnB B (Sh.digest (st.take (i + 1))) z' w2) := by
        rw [HT.out]
        rw [← HP.out] at hown'
        exact Lib.hid (ownB_more (by rw [Hlen.out]; rfl) hown')
      clear hown' hgrow' Hown hb
      go_wp2
      go_roundw
      case rel => exact ⟨i + 1, z', by omega, by go_num, rfl, HO2, hb2⟩
      case measure => simp [intOf]; omega
    · have hi8' : i = 8 := by omega
      subst hi8'
      rw [show ((8 : Nat) : Int) = 8 from rfl]
      have hconv := ownB_text HO.out (Sh.digest_small _)
      obtain ⟨a', n', c', hsl⟩ := ownB_slice HO.out
      have HE : Hid (st.take 8 = st) := Lib.hid (List.take_of_length_le (by rw [H8.out]; omega))
      subst hsl
      go_wp2
      go_ret
      exact ⟨ret_str (by rw [HE.out]), by rw [← HB.out]; exact hb⟩
end Go.Proofs.YtkomfgoloepekaaDoor
