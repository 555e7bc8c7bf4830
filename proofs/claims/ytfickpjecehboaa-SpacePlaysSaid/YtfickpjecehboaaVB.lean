/- SpaceKeeps: what was written is read, all else is as it was. -/
import Derived.Test.YtfickpjecehboaaVA
import Derived.Test.YtfickpjecehboaaUB
import Derived.Test.YtfickpjecehboaaSL
import Derived.BigQuiet
import Derived.Deep.DeepCutAuto
set_option linter.unusedVariables false
namespace Go.Proofs.Ytfickpjecehboaa
open Go.RowKit Go.Maps

/-- A row of numbers that a slice leads to. -/
def WordsAt (w : World) (a : Option Addr) (l : List Int) : Prop := l = [] ∨ ∃ g R, a = some ⟨g, 0, none⟩ ∧ Row [] R w g 0 l.toArray
theorem Words.split {w : World} {b : Nat} {v : Value} {l : List Int} (h : Words w b v l) : ∃ a c, v = .slice a l.length c ∧ WordsAt w a l := by
  rcases h with ⟨rfl, rfl⟩ | ⟨g, cap, R, rfl, _, hR⟩
  · exact ⟨none, 0, rfl, .inl rfl⟩
  · exact ⟨_, _, rfl, .inr ⟨g, R, rfl, hR⟩⟩
theorem WordsAt.below {w w' : World} {a : Option Addr} {l : List Int} (h : WordsAt w a l) (hb : Below w.heap.size w w') : WordsAt w' a l := by
  rcases h with h | ⟨g, R, h1, h2⟩
  · exact .inl h
  · exact .inr ⟨g, R, h1, h2.below hb h2.lt⟩
theorem same_at {w : World} {a a' : Option Addr} {c c' : Nat} {l : List Int} (h : WordsAt w a l) (h' : WordsAt w a' l) (hl : l.length < 1099511627776) :
    Calls Try.prog 19 #[.slice a l.length c, .slice a' l.length c'] w fun e w' => e = .returned (.bool true) ∧ ∃ n, w' = w.drewN n := by
  rcases h with rfl | ⟨g, R, rfl, hR⟩
  · exact same_empty _ _ _ _ w
  · rcases h' with rfl | ⟨g', R', rfl, hR'⟩
    · exact same_empty _ _ _ _ w
    · exact same_row g g' c c' R R' l.toArray w hR hR' (by simpa using hl)
theorem below_drewN (w : World) (n : Nat) : Below w.heap.size w (w.drewN n) := ⟨rfl, rfl, rfl, Nat.le_refl _, fun _ _ => rfl⟩

/-- The space and its copy. -/
structure KInv (w0 : World) (G e n : Nat) (A2 : As) (C e' : Nat) (A : As) (w : World) : Prop where
  m : SpaceAt w G e n A2
  c : SpaceAt w C e' n A
  ec : e ≤ C
  low : Below G w0 w
  gs : G ≤ w.heap.size
section
variable {w0 w w' : World} {G e n C e' : Nat} {A A2 A3 : As}
theorem KInv.below (h : KInv w0 G e n A2 C e' A w) (hb : Below w.heap.size w w') : KInv w0 G e n A2 C e' A w' :=
  ⟨h.m.below hb h.m.hi, h.c.below hb h.c.hi, h.ec, h.low.trans (hb.mono h.gs), Nat.le_trans h.gs hb.size⟩
theorem KInv.turn (h : KInv w0 G e n A2 C e' A w) (t : Turn w w' G e) (h2 : SpaceAt w' G e n A3) : KInv w0 G e n A3 C e' A w' := by
  have h1 := h.m.lo
  have h3 := h.c.hi
  have h4 := h.ec
  exact ⟨h2, h.c.same t.size (fun j hj1 hj2 => t.block j (by omega) (by rintro (rfl | ⟨_, _, _⟩) <;> omega)), h.ec, h.low.trans (t.below (Nat.le_refl _) h.gs), Nat.le_trans h.gs t.size⟩
end
/-- And the pages that were told. -/
def KW (w0 : World) (G e n : Nat) (A2 : As) (C e' : Nat) (A : As) (a : Option Addr) (l : List Int) (w : World) : Prop := KInv w0 G e n A2 C e' A w ∧ WordsAt w a l
theorem KW.below {w0 w w' : World} {G e n C e' : Nat} {A A2 : As} {a : Option Addr} {l : List Int} (h : KW w0 G e n A2 C e' A a l w) (hb : Below w.heap.size w w') : KW w0 G e n A2 C e' A a l w' := ⟨h.1.below hb, h.2.below hb⟩

theorem KW.cell {w0 w : World} {G e n C e' g j x : Nat} {A A2 : As} {l : List Int} (h : KW w0 G e n A2 C e' A (some ⟨g, 0, none⟩) l w) (hj : j < l.length) (hx : l.toArray[j]! = (x : Int)) : w.cell? ⟨g, j, none⟩ = some (.int .u32 (x : Int)) := by
  rcases h.2 with rfl | ⟨g', R, he, hR⟩
  · exact absurd hj (by simp)
  · simp only [Option.some.injEq, Addr.mk.injEq, and_true] at he
    subst he
    have := hR.cell j (by simpa using hj)
    rw [Nat.zero_add, hx] at this
    exact this
theorem KW.at {w0 w : World} {G e n C e' j : Nat} {A A2 : As} {a : Option Addr} {l : List Int} (h : KW w0 G e n A2 C e' A a l w) (hj : j < l.length) : ∃ g, a = some ⟨g, 0, none⟩ := by
  rcases h.2 with rfl | ⟨g', R, he, hR⟩
  · exact absurd hj (by simp)
  · exact ⟨g', he⟩

theorem neg_fact (s : ByteArray) (h : s.size ≤ 1000) : ¬ (1000 : Int) < (s.size : Int) := by omega

set_option maxHeartbeats 8000000 in
set_option maxRecDepth 100000 in
theorem keeps_light (l : List Stp) (a0 : Option Addr) (c : Nat) (ad : Nat) (s : ByteArray) (st : Bool) (w : World) (hl : l.length ≤ 120) (htx : ∀ k, k < l.length → (l.getD k Stp.nought).tx.size ≤ 8192) (hF : ∀ k, k < l.length → (l.getD k Stp.nought).fits)
    (hA : ∀ k, k < l.length → ∃ g o, a0 = some ⟨g, o, none⟩ ∧ g < w.heap.size ∧ Lie w g o l) (had : ad < 4294967296) (hs : s.size ≤ 1000)
    (hHv : Calls Try.prog 7 #[.slice a0 l.length c] w fun e w' => e = .returned (.bool false) ∧ w' = w) :
    Calls Try.prog 4 #[.slice a0 l.length c, .int .u32 (ad : Int), .string s, .bool st] w fun e w' => e = .returned (.bool true) ∧ Below w.heap.size w w' := by
  obtain ⟨G, hG⟩ : ∃ G, G = w.heap.size := ⟨_, rfl⟩
  have HG := Lib.hid hG
  rw [← hG]
  have hs1 := neg_fact s hs
  have HA := Lib.hid hA
  have HF := Lib.hid hF
  have HT := Lib.hid htx
  have HL := Lib.hid hl
  have HAD := Lib.hid had
  have HS0 := Lib.hid hs
  obtain ⟨N, hN⟩ : ∃ N, N = l.length := ⟨_, rfl⟩
  rw [← hN] at hHv ⊢
  have HN := Lib.hid hN
  clear hA hF htx hl had hs hN
  go_enter Try.func4, Try.ntmps4
  go_wp2_with fail
  refine hHv.mono ?_; rintro e w0 ⟨rfl, hw0⟩
  subst hw0
  go_wp2_with fail
  refine (new_any _).mono ?_; rintro e w1 ⟨rfl, h1, hb, hsz⟩
  rw [← hG] at h1 hb ⊢
  have HS := Lib.hid h1
  have HB := Lib.hid hb
  clear h1 hb hsz hG hHv
  go_wp2_with fail
  go_loopw [10] (fun v wr => ∃ k : Nat, v = .int .i64 k ∧ Hid (k ≤ N) ∧ Hid (∃ e A, SpaceAt wr G e k A) ∧ Hid (Below G w0 wr)) (fun v _ => N - (intOf v).toNat)
  case atStart => exact ⟨0, rfl, Lib.hid (Nat.zero_le _), Lib.hid ⟨_, _, HS.out⟩, HB⟩
  case round =>
    obtain ⟨k, rfl, HK, HSP, HBR⟩ := hrel
    clear HS HB
    by_cases hlt : (k : Int) < (N : Int)
    · have hk : k < l.length := by have := HN.out; omega
      have hw64 : IntKind.i64.wrap ((k : Int) + 1) = (k : Int) + 1 := by rw [IntKind.wrap_i64]; have := HN.out; have := HL.out; omega
      obtain ⟨g, o, rfl, hg, hL⟩ := HA.out k hk
      obtain ⟨⟨op, xa, xn, tx⟩, hx⟩ : ∃ x, l.getD k Stp.nought = x := ⟨_, rfl⟩
      have hgs : G ≤ wr.heap.size := by rw [HG.out]; exact HBR.out.size
      have hb1 : Below G w0 (wr.alloc (.cells #[.slice none 0 0] 31)) := HBR.out.alloc hgs _
      obtain ⟨c0, c1, c2, c3⟩ := (hL.below hb1 (by rw [HG.out]; exact hg)).four k hk hx
      have hD : Hid (Calls Try.prog 10 #[.pointer (some ⟨G + 1, 0, none⟩), .pointer (some ⟨wr.heap.size, 0, none⟩), .agg #[.int .i64 op, .int .u32 xa, .int .i64 xn, .string tx]] (wr.alloc (.cells #[.slice none 0 0] 31)) fun r w' => (∃ v, r = .returned (.bool v)) ∧ Hid (∃ e A, SpaceAt w' G e (k + 1) A) ∧ Hid (Below G w0 w')) := Lib.hid (by
        obtain ⟨e1, A1, hsp⟩ := HSP.out
        have hf := HF.out k hk
        have ht := HT.out k hk
        rw [hx] at hf ht
        have hlo := hsp.lo
        have hhi := hsp.hi
        refine (does_bare G e1 k wr.heap.size A1 ⟨op, xa, xn, tx⟩ hf (by have := HL.out; omega) (by simp only at ht ⊢; omega) _ (hsp.same (by simp) (fun j _ hj => Below.heap_alloc _ _ _ (by omega))) (Blk.new wr _ _) (by omega)).mono ?_
        rintro r w' ⟨hr, ⟨e2, A2, _, h2⟩, hb2⟩
        exact ⟨hr, Lib.hid ⟨e2, A2, h2⟩, Lib.hid (hb1.trans hb2)⟩)
      clear hL hg hx hb1 hgs
      go_wp2_with fail
      refine hD.out.mono ?_; rintro r w2 ⟨⟨v, rfl⟩, HSP2, HB2⟩
      have HK2 : Hid (k + 1 ≤ N) := Lib.hid (by omega)
      clear hD HSP HBR
      go_wp2_with fail
      go_roundw
      case rel => exact ⟨k + 1, by go_num, HK2, HSP2, HB2⟩
      case measure => simp [intOf]; have := HK2.out; omega
    · have HKN : Hid (k < 256) := Lib.hid (by have := HK.out; have := HN.out; have := HL.out; omega)
      obtain ⟨e1, A, hsp⟩ := HSP.out
      have HSP1 := Lib.hid hsp
      clear hsp
      go_wp2_with fail
      refine (copy_any G e1 k (by have := HKN.out; omega) A wr HSP1.out).mono ?_; rintro e w3 ⟨rfl, ⟨e3, h3⟩, hb3⟩
      obtain ⟨C, hC⟩ : ∃ C, C = wr.heap.size := ⟨_, rfl⟩
      rw [← hC] at h3 hb3 ⊢
      have hgs : G ≤ wr.heap.size := by rw [HG.out]; exact HBR.out.size
      have hhi := HSP1.out.hi
      have K3 : Hid (KInv w0 G e1 k A C e3 A w3) := Lib.hid ⟨HSP1.out.below hb3 (by omega), h3, by omega, HBR.out.trans (hb3.mono (by omega)), Nat.le_trans hgs hb3.size⟩
      clear h3 hb3 hC hgs hhi HSP1 HSP HBR HK hlt
      go_upto_if 53 with (fail)
      go_cut [12] (fun s12 wx => ∃ E A2, s12 = .int .i64 E ∧ Hid (KInv w0 G e1 k A2 C e3 A wx) ∧ Hid (∃ need, E = putE A need ad s ∧ A2 = putR A need ad s))
      case first =>
        cases st with
        | true =>
          go_wp2_with fail
          refine (set_any G e1 k A ad s HAD.out (by have := HS0.out; omega) w3 K3.out.m).mono ?_; rintro e w4 ⟨rfl, h4, t4⟩
          go_wp2_with fail
          go_meet
          exact ⟨_, _, rfl, Lib.hid (K3.out.turn t4 h4), Lib.hid ⟨0, rfl, rfl⟩⟩
        | false =>
          go_wp2_with fail
          refine (write_any' G e1 k A ad s HAD.out (by have := HS0.out; omega) w3 K3.out.m).mono ?_; rintro e w4 ⟨rfl, h4, t4⟩
          go_wp2_with fail
          go_meet
          exact ⟨_, _, rfl, Lib.hid (K3.out.turn t4 h4), Lib.hid ⟨2, rfl, rfl⟩⟩
      case rest =>
        obtain ⟨E, A2, rfl, K4, HE⟩ := hcut
        clear K3
        have hE2 : E = 0 ∨ E = 50 := by obtain ⟨nd, h1, _⟩ := HE.out; rw [h1]; exact putE_two _ _ _ _
        have HPX : Hid (∀ j, j < (pagesOf A).length → ∃ x a b p, (pagesOf A).toArray[j]! = ((x : Nat) : Int) ∧ PageX A A2 E ad s.size x a b p) := Lib.hid (by
          obtain ⟨nd, h1, h2⟩ := HE.out; rw [h1, h2]; exact fun j hj => page_x A nd ad s j hj)
        have hPO : pagesOf A2 = pagesOf A := by obtain ⟨nd, _, h2⟩ := HE.out; rw [h2]; exact pagesOf_put _ _ _ _
        have HLK : Hid (E = 0 → getE A2 0 ad (s.size : Int) = 0 ∧ getS A2 0 ad (s.size : Int) = s) := Lib.hid (by
          obtain ⟨nd, h1, h2⟩ := HE.out; intro h0; rw [h2]; exact put_look (by have := HS0.out; omega) (by rw [← h1]; exact h0))
        have hPS := pagesOf_size A
        have HPg := Lib.hid (fun w' (h : KInv w0 G e1 k A2 C e3 A w') => hPO ▸ pages_any G e1 k A2 w' h.m HKN.out)
        have HPc := Lib.hid (fun w' (h : KInv w0 G e1 k A2 C e3 A w') => pages_any C e3 k A w' h.c HKN.out)
        obtain ⟨L, hLL⟩ : ∃ L, L = pagesOf A := ⟨_, rfl⟩
        rw [← hLL] at HPX HPg HPc hPS
        have HLS := Lib.hid hPS
        clear hPO hLL hPS HE
        go_wp2_with fail
        refine (HPg.out _ K4.out).mono ?_; rintro r w5 ⟨v1, rfl, hv1, q5⟩
        obtain ⟨a1, cp1, rfl, ha1⟩ := hv1.split
        have K5 : Hid (KW w0 G e1 k A2 C e3 A a1 L w5) := Lib.hid ⟨K4.out.below q5, ha1⟩
        clear hv1 ha1 q5 K4 HPg
        go_upto_region 14 with (fail)
        go_cut [80] (fun s80 wx => s80 = .bool false ∧ Hid (KW w0 G e1 k A2 C e3 A a1 L wx))
        case first =>
          rcases hE2 with rfl | rfl
          · go_wp2_with fail
            refine (HPc.out _ K5.out.1).mono ?_; rintro r w6 ⟨v2, rfl, hv2, q6⟩
            obtain ⟨a2, cp2, rfl, ha2⟩ := hv2.split
            have K6 := Lib.hid (K5.out.below q6)
            have HV := Lib.hid ha2
            clear hv2 ha2 q6 K5 HPc
            go_wp2_with fail
            refine (same_at K6.out.2 HV.out (by have := HLS.out; omega)).mono ?_; rintro r w7 ⟨rfl, nq, rfl⟩
            go_wp2_with fail
            go_meet
            exact ⟨rfl, Lib.hid (K6.out.below (below_drewN _ _))⟩
          · go_wp2_with fail
            refine (HPc.out _ K5.out.1).mono ?_; rintro r w6 ⟨v2, rfl, hv2, q6⟩
            obtain ⟨a2, cp2, rfl, ha2⟩ := hv2.split
            have K6 := Lib.hid (K5.out.below q6)
            have HV := Lib.hid ha2
            clear hv2 ha2 q6 K5 HPc
            go_wp2_with fail
            refine (same_at K6.out.2 HV.out (by have := HLS.out; omega)).mono ?_; rintro r w7 ⟨rfl, nq, rfl⟩
            go_wp2_with fail
            go_meet
            exact ⟨rfl, Lib.hid (K6.out.below (below_drewN _ _))⟩
        case rest =>
          obtain ⟨rfl, K7⟩ := hcut
          clear K5 HPc
          go_wp2_with fail
          refine (look_any G e1 k A2 ad (s.size : Int) HAD.out _ K7.out.1.m).mono ?_; rintro r w8 ⟨rfl, q8⟩
          have K8 := Lib.hid (K7.out.below q8)
          clear q8 K7
          obtain ⟨F, hF⟩ : ∃ F, F = getE A2 0 ad (s.size : Int) := ⟨_, rfl⟩
          obtain ⟨T, hT⟩ : ∃ T, T = getS A2 0 ad (s.size : Int) := ⟨_, rfl⟩
          rw [← hF, ← hT] at HLK ⊢
          clear hF hT
          go_upto_region 17 with (fail)
          go_cut [99] (fun s99 wx => s99 = .bool false ∧ wx = w8)
          case first =>
            rcases hE2 with rfl | rfl
            · obtain ⟨rfl, rfl⟩ := HLK.out rfl
              go_wp2_with fail
              go_meet
              exact ⟨rfl, rfl⟩
            · go_wp2_with fail
              go_meet
              exact ⟨rfl, rfl⟩
          case rest =>
            obtain ⟨rfl, rfl⟩ := hcut
            clear HLK
            go_wp2_with fail
            go_loopw [16] (fun v wr2 => ∃ j : Nat, v = .int .i64 j ∧ Hid (j ≤ L.length) ∧ Hid (KW w0 G e1 k A2 C e3 A a1 L wr2)) (fun v _ => L.length - (intOf v).toNat)
            case atStart => exact ⟨0, rfl, Lib.hid (Nat.zero_le _), K8⟩
            case round =>
              obtain ⟨j, rfl, HJ, K9⟩ := hrel
              clear K8
              by_cases hlt2 : (j : Int) < (L.length : Int)
              · have hj : j < L.length := by omega
                obtain ⟨x, a, b, p, hx, PX⟩ := HPX.out j hj
                obtain ⟨g, rfl⟩ := K9.out.at hj
                have HC : Hid (∀ w', KW w0 G e1 k A2 C e3 A (some ⟨g, 0, none⟩) L w' → w'.cell? ⟨g, j, none⟩ = some (.int .u32 (x : Int))) := Lib.hid fun w' h => h.cell hj hx
                have hx32 : x < 4294967296 := by have := PX.le; omega
                have HL1 : Hid (∀ w', KW w0 G e1 k A2 C e3 A (some ⟨g, 0, none⟩) L w' → Calls Try.prog 20 #[.pointer (some ⟨G + 1, 0, none⟩), .int .u32 (x : Int), .int .i64 256] w' fun r w2 => r = .returned (.tuple #[.string a, .int .i64 0]) ∧ Below w'.heap.size w' w2) := Lib.hid fun w' h => by
                  have := look_any G e1 k A2 x 256 hx32 w' h.1.m
                  rw [PX.s1, PX.e1] at this
                  exact this
                have HL2 : Hid (∀ w', KW w0 G e1 k A2 C e3 A (some ⟨g, 0, none⟩) L w' → Calls Try.prog 20 #[.pointer (some ⟨C + 1, 0, none⟩), .int .u32 (x : Int), .int .i64 256] w' fun r w2 => r = .returned (.tuple #[.string b, .int .i64 0]) ∧ Below w'.heap.size w' w2) := Lib.hid fun w' h => by
                  have := look_any C e3 k A x 256 hx32 w' h.1.c
                  rw [PX.s2, PX.e2] at this
                  exact this
                have HP1 : Hid (∀ w', KW w0 G e1 k A2 C e3 A (some ⟨g, 0, none⟩) L w' → Calls Try.prog 13 #[.pointer (some ⟨G + 1, 0, none⟩), .int .u32 (x : Int)] w' fun r w2 => (∃ z, r = .returned (.tuple #[.int .u8 (p : Int), .bool z])) ∧ w2 = w') := Lib.hid fun w' h => by
                  have := perm_any G e1 k A2 x hx32 w' h.1.m
                  rw [PX.p1] at this
                  exact this.mono fun _ _ ⟨h1, h2⟩ => ⟨⟨_, h1⟩, h2⟩
                have HP2 : Hid (∀ w', KW w0 G e1 k A2 C e3 A (some ⟨g, 0, none⟩) L w' → Calls Try.prog 13 #[.pointer (some ⟨C + 1, 0, none⟩), .int .u32 (x : Int)] w' fun r w2 => (∃ z, r = .returned (.tuple #[.int .u8 (p : Int), .bool z])) ∧ w2 = w') := Lib.hid fun w' h => by
                  have := perm_any C e3 k A x hx32 w' h.1.c
                  rw [PX.p2] at this
                  exact this.mono fun _ _ ⟨h1, h2⟩ => ⟨⟨_, h1⟩, h2⟩
                have HPX1 := Lib.hid PX
                have c9 := HC.out _ K9.out
                clear PX hx hx32
                go_wp2_with fail
                refine (HL1.out _ K9.out).mono ?_; rintro r wa ⟨rfl, qa⟩
                have Ka := Lib.hid (K9.out.below qa)
                clear qa c9 K9
                have ca := HC.out _ Ka.out
                go_wp2_with fail
                refine (HL2.out _ Ka.out).mono ?_; rintro r wb ⟨rfl, qb⟩
                have Kb := Lib.hid (Ka.out.below qb)
                clear qb ca Ka
                have cb := HC.out _ Kb.out
                go_wp2_with fail
                refine (HP1.out _ Kb.out).mono ?_; rintro r wd ⟨⟨z1, rfl⟩, rfl⟩
                go_wp2_with fail
                refine (HP2.out _ Kb.out).mono ?_; rintro r we ⟨⟨z2, rfl⟩, rfl⟩
                have za : ((a.size : Int) != 256) = false := by rw [HPX1.out.z1]; rfl
                have zb : ((b.size : Int) != 256) = false := by rw [HPX1.out.z2]; rfl
                clear cb
                go_wp2_with fail
                go_loopw [25] (fun v wr3 => ∃ q : Nat, v = .int .i64 q ∧ Hid (q ≤ 256) ∧ Hid (KW w0 G e1 k A2 C e3 A (some ⟨g, 0, none⟩) L wr3)) (fun v _ => 256 - (intOf v).toNat)
                case atStart => exact ⟨0, rfl, Lib.hid (Nat.zero_le _), Kb⟩
                case round =>
                  obtain ⟨q, rfl, HQ, Kc⟩ := hrel
                  clear Kb
                  by_cases hq : (q : Int) < 256
                  · have cc := HC.out _ Kc.out
                    have hxl := HPX1.out.le
                    obtain ⟨X, hX⟩ : ∃ X : Int, X = (x : Int) + (q : Int) := ⟨_, rfl⟩
                    obtain ⟨EN, hEN⟩ : ∃ EN : Int, EN = (ad : Int) + (s.size : Int) := ⟨_, rfl⟩
                    have m1 : IntKind.u64.wrap (x : Int) = (x : Int) := by rw [IntKind.wrap_u64]; omega
                    have m2 : IntKind.u64.wrap (q : Int) = (q : Int) := by rw [IntKind.wrap_u64]; omega
                    have m3 : IntKind.u64.wrap ((x : Int) + (q : Int)) = X := by rw [IntKind.wrap_u64]; omega
                    have m4 : IntKind.u64.wrap (ad : Int) = (ad : Int) := by rw [IntKind.wrap_u64]; have := HAD.out; omega
                    have m5 : IntKind.u64.wrap (s.size : Int) = (s.size : Int) := by rw [IntKind.wrap_u64]; have := HS0.out; omega
                    have m6 : IntKind.u64.wrap ((ad : Int) + (s.size : Int)) = EN := by rw [IntKind.wrap_u64]; have := HAD.out; have := HS0.out; omega
                    have HQ2 : Hid (q + 1 ≤ 256) := Lib.hid (by omega)
                    have HXX : Hid (X = (x : Int) + (q : Int) ∧ EN = (ad : Int) + (s.size : Int)) := Lib.hid ⟨hX, hEN⟩
                    have e9 : IntKind.i64.wrap ((q : Int) + 1) = (q : Int) + 1 := by rw [IntKind.wrap_i64]; omega
                    obtain ⟨y, hy⟩ : ∃ y, y = bAt a q := ⟨_, rfl⟩
                    have i1 := run_index a q q rfl (by rw [HPX1.out.z1]; omega) y hy.symm
                    have HI2 : Hid (¬ (E = 0 ∧ (ad : Int) ≤ X ∧ X < EN) → ∀ W, (Instr.index 9 (.string b) (.int .i64 q)).run Try.prog W = .ok (.int .u8 y) W) := Lib.hid fun hn => run_index b q q rfl (by rw [HPX1.out.z2]; omega) y (by
                      rw [hy]; refine (HPX1.out.eq q (by omega) ?_).symm
                      rintro ⟨h1, h2, h3⟩
                      exact hn ⟨h1, by omega, by omega⟩)
                    clear hxl hX hEN hy
                    obtain ⟨bb, hbb⟩ : ∃ bb, bb = decide (E = 0 ∧ (ad : Int) ≤ X ∧ X < EN) := ⟨_, rfl⟩
                    have HBB := Lib.hid hbb
                    clear hbb
                    go_upto_region 32 with (fail)
                    go_cut [27] (fun s27 wx => s27 = .bool bb ∧ wx = wr)
                    case first =>
                      clear i1
                      by_cases h0 : E = 0
                      · have t0 : (E == 0) = true := by rw [h0]; rfl
                        have H0 := Lib.hid h0
                        clear h0
                        by_cases h1 : (ad : Int) ≤ X
                        · by_cases h2 : X < EN
                          · go_wp2_with fail
                            go_meet
                            exact ⟨by rw [HBB.out]; have h0 := H0.out; simp [h0, h1, h2], rfl⟩
                          · go_wp2_with fail
                            go_meet
                            exact ⟨by rw [HBB.out]; have h0 := H0.out; simp [h0, h1, h2], rfl⟩
                        · go_wp2_with fail
                          go_meet
                          exact ⟨by rw [HBB.out]; have h0 := H0.out; simp [h0]; omega, rfl⟩
                      · have t0 : (E == 0) = false := by rw [beq_eq_false_iff_ne]; exact h0
                        go_wp2_with fail
                        go_meet
                        exact ⟨by rw [HBB.out]; simp [h0], rfl⟩
                    case rest =>
                      obtain ⟨rfl, rfl⟩ := hcut
                      clear m1 m2 m3 m4 m5 m6 cc za zb hs1
                      cases bb with
                      | true =>
                        clear i1 HI2
                        go_wp2_with fail
                        go_quiet (fail)
                        go_wp2_with fail
                        go_roundw
                        case rel => exact ⟨q + 1, by go_num, HQ2, Lib.hid (Kc.out.below (below_drewN _ _))⟩
                        case measure => simp [intOf]; have := HQ2.out; omega
                      | false =>
                        have i2 := HI2.out (of_decide_eq_false HBB.out.symm)
                        clear HI2
                        go_wp2_with fail
                        go_quiet (fail)
                        go_wp2_with fail
                        go_roundw
                        case rel => exact ⟨q + 1, by go_num, HQ2, Lib.hid (Kc.out.below (below_drewN _ _))⟩
                        case measure => simp [intOf]; have := HQ2.out; omega
                  · have hw64 : IntKind.i64.wrap ((j : Int) + 1) = (j : Int) + 1 := by rw [IntKind.wrap_i64]; have := HLS.out; omega
                    go_wp2_with fail
                    have HJ2 : Hid (j + 1 ≤ L.length) := Lib.hid (by omega)
                    go_roundw
                    case rel => exact ⟨j + 1, by go_num, HJ2, Kc⟩
                    case measure => simp [intOf]; have := HJ2.out; omega
              · go_wp2_with fail
                refine (alive_any _).mono ?_; rintro e wz ⟨rfl, qz⟩
                go_wp2
                go_ret
                exact ⟨rfl, K9.out.1.low.trans (qz.mono K9.out.1.gs)⟩
end Go.Proofs.Ytfickpjecehboaa
