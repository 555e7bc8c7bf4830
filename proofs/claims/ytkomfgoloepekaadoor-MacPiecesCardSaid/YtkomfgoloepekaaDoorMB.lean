/- mac.padded: a key's block, put together with a byte. -/
import Derived.Test.YtkomfgoloepekaaDoorI
import Derived.Test.YtkomfgoloepekaaDoorMM
set_option linter.unusedVariables false
namespace Go.Proofs.YtkomfgoloepekaaDoor
open Go.RowKit

theorem blk_text {w : World} {g : Nat} {t : TypeId} {l : List Nat} (h : Blk w g t (u8s l)) (hs : ∀ x ∈ l, x < 256) (c : Nat) : (convert 33 9 (.slice (some ⟨g, 0, none⟩) l.length c)).run Tryd.prog w = .ok (.string (str l)) w := by
  have := run_convert_bytes_back (P := Tryd.prog) w 33 9 5 ⟨g, 0, none⟩ c (l.map UInt8.ofNat) Tryd.underlying33 Tryd.underlying5 Tryd.underlying9 (Lib.bytes_of_row h (by rw [u8s_bytes l hs, List.toList_toArray]; exact List.take_of_length_le (by simp [Lib.byteCells])))
  rw [List.length_map] at this
  exact this
theorem zeroBlock (w : World) : (zeroValue 53).run Tryd.prog w = .ok (.agg (u8s (List.replicate 64 0)).toArray) w := by kernel_rfl

set_option maxHeartbeats 1000000 in
set_option maxRecDepth 100000 in
theorem padded_any (s : ByteArray) (c : Nat) (hc : c < 256) (w : World) (hk : Keyed w) (hs : s.size ≤ 4294967296) :
    Calls Tryd.prog 21 #[.string s, .int .u8 (c : Int)] w fun e w' => e = .returned (.string (str (Mc.withc c (Mc.block (nats s))))) ∧ Below w.heap.size w w' := by
  have HK := Lib.hid hk
  have HC := Lib.hid hc
  have HN := Lib.hid (nats_length s)
  obtain ⟨B, hB⟩ : ∃ B, B = w.heap.size := ⟨_, rfl⟩
  have HB := Lib.hid hB
  obtain ⟨w0, hw0⟩ : ∃ w0, w0 = w := ⟨_, rfl⟩
  have HW0 : Hid (Below B w0 w) := by rw [hw0]; exact Lib.hid (Below.refl _ _)
  have HS := Lib.hid (fun w hk => sum_any s w hk hs)
  have hs' : (s.size : Int) ≤ 4294967296 := by omega
  obtain ⟨b, hb⟩ : ∃ b, b = Mc.block (nats s) := ⟨_, rfl⟩
  have HBl : Hid (b.length = 64 ∧ ∀ x ∈ b, x < 256) := by rw [hb]; exact Lib.hid ⟨Mc.block_length _, Mc.block_small _ (nats_small s)⟩
  have HW : Hid (∀ x ∈ Mc.withc c b, x < 256) := Lib.hid (Mc.withc_small _ _ hc HBl.out.2)
  have HBd : Hid (b = Mc.key (nats s) ++ List.replicate (64 - (Mc.key (nats s)).length) 0) := Lib.hid hb
  obtain ⟨Z, hZ⟩ : ∃ Z, Z = (u8s (List.replicate 64 0)).toArray := ⟨_, rfl⟩
  have HZ := zeroBlock
  rw [← hZ] at HZ
  have HZd := Lib.hid hZ
  rw [← hb, ← hB]
  obtain ⟨C, hCC⟩ : ∃ C : Int, C = (c : Int) := ⟨_, rfl⟩
  have C0 : 0 ≤ C := by omega
  have C1 : C < 256 := by omega
  have HCC := Lib.hid hCC
  rw [← hCC]
  have HE : ∀ (e : Ending) w', e = .returned (.string (str (Mc.withc c b))) ∧ Below B w0 w' → e = .returned (.string (str (Mc.withc c b))) ∧ Below B w w' := fun e w' h => by rw [← hw0]; exact h
  refine Calls.mono ?_ (fun e w' h => HE e w' h)
  clear HE hw0 hk hs hc hb hB hZ hCC
  go_enter Tryd.func21, Tryd.ntmps21
  by_cases hlong : 64 < s.size
  case' pos =>
    have h1 : (64 : Int) < (s.size : Int) := by omega
    have HKey : Hid (Mc.key (nats s) = Sh.sum (nats s)) := Lib.hid (by unfold Mc.key; rw [if_pos (by rw [HN.out]; exact hlong)])
    go_wp2_with fail
    refine (HS.out _ HK.out).mono ?_; rintro e w1 ⟨rfl, q⟩
    obtain ⟨u, hu⟩ : ∃ u, u = str (Sh.sum (nats s)) := ⟨_, rfl⟩
    have HU : Hid (nats u = Mc.key (nats s)) := by rw [hu, HKey.out]; exact Lib.hid (nats_str _ (Mc.sum_small _))
    have hu64 : u.size ≤ 64 := by have h1 := nats_length u; rw [HU.out] at h1; have := Mc.key_length (nats s); omega
    rw [← HB.out] at q
    have HB1 : Hid (B ≤ w1.heap.size) := Lib.hid (by have := q.size; have := HB.out; omega)
    replace q := HW0.out.trans q
    rw [← hu]
    have HBu : Hid (b = nats u ++ List.replicate (64 - u.size) 0) := by rw [← nats_length u, HU.out]; exact HBd
    clear hu HKey h1 HS HN hlong HB HW0 HK HU HBd hs'
  case' neg =>
    have h1 : (s.size : Int) ≤ 64 := by omega
    have hu64 : s.size ≤ 64 := by omega
    have HKey : Hid (Mc.key (nats s) = nats s) := Lib.hid (by unfold Mc.key; rw [if_neg (by rw [HN.out]; exact hlong)])
    have HBu : Hid (b = nats s ++ List.replicate (64 - s.size) 0) := by rw [← nats_length s]; have h := HBd.out; rw [HKey.out] at h; exact Lib.hid h
    have HB1 : Hid (B ≤ w.heap.size) := Lib.hid (Nat.le_of_eq HB.out)
    have q := HW0.out
    clear HKey HS HN hlong HB HW0 HK HBd hs'
    obtain ⟨w1, hw1⟩ : ∃ w1, w1 = w := ⟨_, rfl⟩
    subst hw1
    obtain ⟨u, hu⟩ : ∃ u, u = s := ⟨_, rfl⟩
    subst hu
  all_goals
    have HG : Hid ((w1.alloc (.cells Z 53)).heap[w1.heap.size]? = some (.cells Z 53 (0, 0))) := Lib.hid (heap_alloc_new w1 _)
    have HCopy : Hid ((Builtin.copy_ #[33, 9] 3 #[.slice (some ⟨w1.heap.size, 0, none⟩) 64 64, .string u]).run Tryd.prog (w1.alloc (.cells Z 53)) = .ok (.int .i64 (u.size : Int)) ((w1.alloc (.cells Z 53)).setRow w1.heap.size (u8s b).toArray)) := by
      have h0 : Blk (w1.alloc (.cells Z 53)) w1.heap.size 53 (u8s (List.replicate 64 0)) := by rw [HZd.out]; exact Blk.new w1 _ _
      have h := run_copy_part (P := Tryd.prog) (w1.alloc (.cells Z 53)) 33 9 3 5 w1.heap.size 0 64 64 u.size u _ 53 Tryd.underlying33 infob h0 (by simp [hu64]) (by rw [u8s_length, List.length_replicate]; omega)
      rw [List.take_zero, List.nil_append, Nat.zero_add, List.take_of_length_le (by rw [nats_length]; exact Nat.le_refl _)] at h
      have e : u8s (nats u) ++ (u8s (List.replicate 64 0)).drop u.size = u8s b := by rw [HBu.out]; unfold u8s; rw [← List.map_drop, ← List.map_append, List.drop_replicate]
      rw [e] at h
      exact Lib.hid h
    obtain ⟨wk, hwk⟩ : ∃ wk, wk = (w1.alloc (.cells Z 53)).setRow w1.heap.size (u8s b).toArray := ⟨_, rfl⟩
    have HBk : Hid (Blk wk w1.heap.size 53 (u8s (Mc.half c b 0))) := by
      have h0 : Blk (w1.alloc (.cells Z 53)) w1.heap.size 53 (u8s (List.replicate 64 0)) := by rw [HZd.out]; exact Blk.new w1 _ _
      rw [Mc.half_zero, hwk]; exact Lib.hid (h0.setRow _)
    have hbk : Below B w0 wk := by
      rw [hwk]; exact Below.ofGrown (q.alloc HB1.out _) (only_setRow (World.grownBy.refl _ _) _) HB1.out (by have := HB1.out; simp; omega)
    rw [← hwk] at HCopy
    clear hwk
    have hu64' : (u.size : Int) ≤ 64 := by omega
    go_wp2_with (with_reducible refine Lib.wpList_copy_run _ rfl (.tmp 12) (.tmp 13) 33 9 rfl (.slice (some ⟨w1.heap.size, 0, none⟩) 64 64) (.string u) rfl rfl HCopy.out ?_)
    obtain ⟨G, hG⟩ : ∃ G, G = w1.heap.size := ⟨_, rfl⟩
    rw [← hG] at HBk HB1 ⊢
    clear hG HG HCopy HZ HZd HBu
    go_loopw [15] (fun t15 wr => ∃ i : Nat, i ≤ 64 ∧ t15 = .int .i64 i ∧ Hid (Blk wr G 53 (u8s (Mc.half c b i))) ∧ Below B w0 wr) (fun t15 _ => (64 - intOf t15).toNat)
    case atStart => exact ⟨0, by omega, rfl, HBk, hbk⟩
    case round =>
      clear HBk hbk
      obtain ⟨i, hi, rfl, HP, hbr⟩ := hrel
      by_cases hlt : i < 64
      · obtain ⟨x, hx⟩ : ∃ x, b.getD i 0 = x := ⟨_, rfl⟩
        have hx2 : x < 256 := by rw [← hx]; exact Sh.getD_lt b 256 (by decide) HBl.out.2 i
        have g := HP.out.cell i
        rw [u8s_getD _ _ (by rw [Mc.half_length _ _ _ (by rw [HBl.out.1]; omega), HBl.out.1]; exact hlt), Mc.half_get _ _ _ (by rw [HBl.out.1]; exact hlt), hx] at g
        have gf := HP.out.frozen i
        obtain ⟨X, hX⟩ : ∃ X : Int, X = (x : Int) := ⟨_, rfl⟩
        have HO : Hid (bits .xor .u8 X C = ((x ^^^ c : Nat) : Int)) := by rw [hX, HCC.out]; exact Lib.hid (u8_xor_nat x c hx2 HC.out)
        obtain ⟨z, hz⟩ : ∃ z : Nat, z = x ^^^ c := ⟨_, rfl⟩
        rw [← hz] at HO
        have HN : Hid (Blk (wr.setCell ⟨G, i, none⟩ (.int .u8 (z : Int))) G 53 (u8s (Mc.half c b (i + 1)))) := by
          have h := HP.out.set_ i (.int .u8 (z : Int))
          rw [show (u8s (Mc.half c b i)).set i (.int .u8 (z : Int)) = u8s ((Mc.half c b i).set i z) by simp [u8s, List.map_set], hz, ← hx, Mc.half_set _ _ _ (by rw [HBl.out.1]; exact hlt), hx, ← hz] at h
          exact Lib.hid h
        have hb2 : Below B w0 (wr.setCell ⟨G, i, none⟩ (.int .u8 (z : Int))) := hbr.setCell (p := ⟨G, i, none⟩) HB1.out _
        have x0 : 0 ≤ X := by omega
        have x1 : X < 256 := by omega
        rw [← hX] at g
        clear hx hx2 hX hz HP hbr
        go_wp2
        rw [HO.out]
        go_roundw
        case rel => exact ⟨i + 1, by omega, by go_num, HN, hb2⟩
        case measure => simp [intOf]; omega
      · have hi64 : i = 64 := by omega
        subst hi64
        rw [show ((64 : Nat) : Int) = 64 from rfl]
        have hP := HP.out
        rw [Mc.half_all _ _ _ HBl.out.1] at hP
        have hconv := blk_text hP HW.out 64
        rw [Mc.withc_length, HBl.out.1] at hconv
        clear hP
        go_wp2
        go_ret
        exact ⟨rfl, hbr⟩
end Go.Proofs.YtkomfgoloepekaaDoor
