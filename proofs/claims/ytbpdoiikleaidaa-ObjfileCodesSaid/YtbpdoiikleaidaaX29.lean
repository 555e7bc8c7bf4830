/- The program's list of symbols. -/
import Derived.Test.YtbpdoiikleaidaaX28
import Derived.LoopTactic
set_option linter.unusedVariables false
set_option linter.unusedSimpArgs false
namespace Go.Proofs.Ytbpdoiikleaidaa
open Go Go.RowKit Oj Pk Of

theorem Cp8.pd {w w' : World} {B g : Nat} {l : List Sy} {k : Nat} {v : Value} {R N : Nat → Value} {cs : List Value} (h : Cp8 w B l k v R N) (hb : Blk w g 97 cs) (hg : w.grownBy w' (some g)) : Cp8 w' B l k v R N :=
  ⟨h.row.kept hg (.inr (row_block hb h.row (by decide))), fun j hj => World.ownsRow.kept (h.rels j hj) hg (.inr (row_block hb (h.rels j hj) (by decide))), fun j hj => World.ownsRow.kept (h.notes j hj) hg (.inr (row_block hb (h.notes j hj) (by decide)))⟩
section
variable {w0 w w' : World} {p : Nat} {r r2 : Rd}
/-- What the call that reads so many symbols leaves. -/
def ListSPost (w : World) (p : Nat) (l : List Sy) (r : Rd) (e : Ending) (w' : World) : Prop := ∃ a c R N, e = .returned (.slice a l.length c) ∧ Cp8 w' w.heap.size l l.length (.slice a l.length c) R N ∧ RpAt w' p r ∧ w.grownBy w' (some p)
set_option maxHeartbeats 8000000 in
set_option maxRecDepth 100000 in
theorem listS_any (w : World) (h : RpAt w p r) (hS : r.S.length ≤ 4194304) :
    Calls Try.prog 45 #[rdg p, .int .i64 2, .func (.func 46) #[rdg p] #[]] w (ListSPost w p (many rdS (num r 2).1 (num r 2).2).1 (many rdS (num r 2).1 (num r 2).2).2) := by
  obtain ⟨iS, hi, hz, hs, hb⟩ := info_parts infoSym
  have HI := Lib.hid (And.intro hi (And.intro hz (And.intro hs hb)))
  clear hi hz hs hb
  have HB0 := Lib.hid (below1 w (.cells #[.pointer (some ⟨p, 0, none⟩)] 71))
  have HX0 := Lib.hid (Blk.new w 71 [.pointer (some ⟨p, 0, none⟩)])
  have hx0 := boxed1 w (.pointer (some ⟨p, 0, none⟩)) 71
  have HLp := Lib.hid (Blk.lt h)
  have HN := Lib.hid (gnum_any 2 _ (h.below (below1 w (.cells #[.pointer (some ⟨p, 0, none⟩)] 71))) (by omega))
  have bn : (num r 2).1 < 65536 := num2_lt r
  have ln : (num r 2).2.S.length ≤ 4194304 := Nat.le_trans (num_len 2) hS
  obtain ⟨n, hn⟩ : ∃ n, n = (num r 2).1 := ⟨_, rfl⟩
  obtain ⟨r3, hr3⟩ : ∃ q, q = (num r 2).2 := ⟨_, rfl⟩
  rw [← hn, ← hr3] at HN ⊢
  rw [← hn] at bn
  rw [← hr3] at ln
  obtain ⟨SS, hSS⟩ : ∃ t, t = (many rdS n r3).1 := ⟨_, rfl⟩
  obtain ⟨r4, hr4⟩ : ∃ t, t = (many rdS n r3).2 := ⟨_, rfl⟩
  have HM : Hid (many rdS n r3 = (SS, r4)) := Lib.hid (by rw [hSS, hr4])
  rw [← hSS, ← hr4]
  have HLn := Lib.hid ln
  have ibn : (n : Int) < 65536 := by omega
  unfold GPost at HN
  unfold rdg at HN ⊢
  clear hn hr3 hSS hr4 h hS ln bn
  go_enter Try.func45, Try.ntmps45
  go_wp2_with fail
  refine HN.out.mono ?_; rintro e w1 ⟨rfl, hr, hg⟩
  have HR1 := Lib.hid hr
  have HG1 := Lib.hid (gb_trans (grownB HB0.out (some p)) hg)
  have HX1 := Lib.hid (HX0.out.grown hg (fun e => by have := Option.some.inj e; have := HLp.out; omega))
  clear hr hg HN HX0 HB0 hx0
  go_wp2_with fail
  go_loopw [7, 11] (fun v i wr => ∃ (k : Nat) (rk : Rd) (R N : Nat → Value), (k : Int) ≤ n ∧ i = .int .u32 (k : Int) ∧ Hid (k ≤ SS.length) ∧ Hid (many rdS (n - k) rk = (SS.drop k, r4)) ∧ Hid (rk.S.length ≤ 4194304) ∧ Hid (RpAt wr p rk) ∧ Hid (w.grownBy wr (some p)) ∧ Hid (Blk wr w.heap.size 71 [.pointer (some ⟨p, 0, none⟩)]) ∧ Hid (Cp8 wr w.heap.size SS k v R N)) (fun v i _ => n - (intOf i).toNat)
  case atStart => exact ⟨0, r3, fun _ => undef, fun _ => undef, by omega, rfl, Lib.hid (Nat.zero_le _), HM, HLn, HR1, HG1, HX1, Lib.hid ⟨World.ownsRow_nil _ _ _ _, fun j hj => absurd hj (by omega), fun j hj => absurd hj (by omega)⟩⟩
  case round =>
    clear HR1 HG1 HX1
    obtain ⟨k, rk, R, N, hk, rfl, HLk, HMk, HRk, HR, HG, HX, CC⟩ := hrel
    obtain ⟨a5, c5', hv5⟩ := row_slice CC.out.row
    subst hv5
    have c0 : wr.cell? ⟨w.heap.size, 0, none⟩ = some (.pointer (some ⟨p, 0, none⟩)) := HX.out.cell 0
    have HFt := Lib.hid (fault_any (p := p) rk.E wr (RpAt.cells HR.out).2.1)
    by_cases hcont : k < n ∧ rk.E = 0
    · obtain ⟨hkn, hE⟩ := hcont
      rw [hE] at HFt
      have hd : decide (k < n) = true := decide_eq_true hkn
      have HO1 := Lib.hid (gsym_any (w := wr) HR.out HRk.out)
      obtain ⟨X, hX⟩ : ∃ t, t = (rdS rk).1 := ⟨_, rfl⟩
      obtain ⟨q, hq⟩ : ∃ t, t = (rdS rk).2 := ⟨_, rfl⟩
      rw [← hX, ← hq] at HO1
      have HN2 : Hid (SS.drop k = X :: SS.drop (k + 1) ∧ many rdS (n - (k + 1)) q = (SS.drop (k + 1), r4) ∧ k + 1 ≤ SS.length ∧ SS.getD k Sy.nought = X) := Lib.hid (by
        have e := many_step (f := rdS) (n := n - (k + 1)) hE
        rw [show n - (k + 1) + 1 = n - k by omega, HMk.out, ← hX, ← hq, Prod.mk.injEq] at e
        have hlt : k < SS.length := by
          rcases Nat.lt_or_ge k SS.length with h | h
          · exact h
          · rw [List.drop_eq_nil_of_le h] at e; cases e.1
        have hdr := List.drop_eq_getElem_cons hlt
        rw [hdr, List.cons.injEq] at e
        refine ⟨by rw [hdr, e.1.1], ?_, hlt, ?_⟩
        · rw [e.1.2, e.2]
        · rw [List.getD_eq_getElem?_getD, List.getElem?_eq_getElem hlt]; exact e.1.1)
      have HLq : Hid (q.S.length ≤ 4194304) := Lib.hid (by rw [hq]; exact Nat.le_trans (rdS_len' rk) HRk.out)
      obtain ⟨u0, g0⟩ : ∃ u, u = tx X.name := ⟨_, rfl⟩
      obtain ⟨u1, g1⟩ : ∃ u, u = X.bind := ⟨_, rfl⟩
      obtain ⟨u2, g2⟩ : ∃ u, u = X.kind := ⟨_, rfl⟩
      obtain ⟨u3, g3⟩ : ∃ u, u = X.size := ⟨_, rfl⟩
      obtain ⟨u4, g4⟩ : ∃ u, u = tx X.bytes := ⟨_, rfl⟩
      obtain ⟨rn, hrn⟩ : ∃ x, x = X.rels.length := ⟨_, rfl⟩
      obtain ⟨nn, hnn⟩ : ∃ x, x = X.notes.length := ⟨_, rfl⟩
      have HCells : Hid (∀ x y, syCells X x y = [.string u0, .int .u8 u1, .int .u8 u2, .int .u32 u3, .string u4, x, y]) := Lib.hid (fun x y => by unfold syCells; rw [g0, g1, g2, g3, g4])
      have HK : Hid (k + 1 ≤ maxLen ∧ (k + 1) * 88 ≤ 140737488355328) := Lib.hid (by unfold maxLen; omega)
      unfold GSymPost at HO1
      unfold rdg at HO1
      rw [← g0, ← g1, ← g2, ← g3, ← g4, ← hrn, ← hnn] at HO1
      clear g0 g1 g2 g3 g4 hrn hnn hX hq hE HMk HLk HRk
      go_wp2_with fail
      refine HFt.out.mono ?_; rintro e w2 ⟨rfl, rfl⟩
      clear HFt
      go_wp2_with fail
      refine HO1.out.mono ?_; rintro e w5 ⟨ar, cr, an, cn, rfl, ho, hn', hr, hg⟩
      have HR5 := Lib.hid hr
      have HX5 := Lib.hid (HX.out.grown hg (fun e => by have := Option.some.inj e; have := HLp.out; omega))
      have HO5 : Hid (OwnR w5 w.heap.size (.slice ar rn cr) X.rels) := Lib.hid (World.ownsRow.mono ho HG.out.size)
      have HN5 : Hid (OwnN w5 w.heap.size (.slice an nn cn) X.notes) := Lib.hid (World.ownsRow.mono hn' HG.out.size)
      have C5 := Lib.hid (CC.out.pd HR.out hg)
      have HG5 := Lib.hid (gb_trans HG.out hg)
      clear hr hg ho hn' HO1 HR HG HX CC c0
      have hone : Hid (∀ u ∈ [Value.string u0, .int .u8 u1, .int .u8 u2, .int .u32 u3, .string u4, .slice ar rn cr, .slice an nn cn], u.oneCell' = true) := Lib.hid (by rw [← HCells.out]; exact sy_one _ _ _ _ _ _ _)
      have hBs : Hid (w.heap.size ≤ (w5.alloc (.cells #[.string u0, .int .u8 u1, .int .u8 u2, .int .u32 u3, .string u4, .slice ar rn cr, .slice an nn cn] 47)).heap.size) := Lib.hid (by have := HG5.out.size; simp; omega)
      go_wp2_with (at_builtin; refine wpList_append_own _ rfl _ _ 22 rfl w.heap.size 47 iS _ 7 88 Try.underlying22 HI.out.1 HI.out.2.1 HI.out.2.2.1 HI.out.2.2.2 rfl (by decide) _ _ _ rfl (C5.out.row.alloc _) ⟨w5.heap.size, 0, none⟩ 1 1 [Value.string u0, .int .u8 u1, .int .u8 u2, .int .u32 u3, .string u4, .slice ar rn cr, .slice an nn cn] rfl rfl (new_sym _ _ _ _ _ _ _ _) hone.out HK.out.1 HK.out.2 hBs.out ?_)
      intro v6 w6 h6 h7 _
      have hCx := C5.out.below (below_new1 w5 (.cells #[.string u0, .int .u8 u1, .int .u8 u2, .int .u32 u3, .string u4, .slice ar rn cr, .slice an nn cn] 47))
      have hRx := row_below HO5.out (below_new1 w5 (.cells #[.string u0, .int .u8 u1, .int .u8 u2, .int .u32 u3, .string u4, .slice ar rn cr, .slice an nn cn] 47))
      have hNx := row_below HN5.out (below_new1 w5 (.cells #[.string u0, .int .u8 u1, .int .u8 u2, .int .u32 u3, .string u4, .slice ar rn cr, .slice an nn cn] 47))
      have C6 := Lib.hid (hCx.more (v' := v6) (r := .slice ar rn cr) (n := .slice an nn cn) (by rw [HN2.out.2.2.2]; exact hRx) (by rw [HN2.out.2.2.2]; exact hNx) (by rw [HN2.out.2.2.2, HCells.out]; exact h6) h7)
      have HR6 := Lib.hid (Blk.grown (Blk.alloc HR5.out (.cells #[.string u0, .int .u8 u1, .int .u8 u2, .int .u32 u3, .string u4, .slice ar rn cr, .slice an nn cn] 47)) h7 (fun e => row_block (Blk.alloc HR5.out (.cells #[.string u0, .int .u8 u1, .int .u8 u2, .int .u32 u3, .string u4, .slice ar rn cr, .slice an nn cn] 47)) hCx.row (by decide) e.symm))
      have HX6 := Lib.hid (Blk.grown (Blk.alloc HX5.out (.cells #[.string u0, .int .u8 u1, .int .u8 u2, .int .u32 u3, .string u4, .slice ar rn cr, .slice an nn cn] 47)) h7 (fun e => row_block (Blk.alloc HX5.out (.cells #[.string u0, .int .u8 u1, .int .u8 u2, .int .u32 u3, .string u4, .slice ar rn cr, .slice an nn cn] 47)) hCx.row (by decide) e.symm))
      have HG6 := Lib.hid (gb_new (gb_new HG5.out (World.grownBy_alloc w5 (.cells #[.string u0, .int .u8 u1, .int .u8 u2, .int .u32 u3, .string u4, .slice ar rn cr, .slice an nn cn] 47) none) (fun k hk => by cases hk)) h7 (fun k hk => (hCx.row.lt k hk).1))
      obtain ⟨a7, c7, hv⟩ := row_slice C6.out.row
      clear h6 h7 hCx hRx hNx HR5 HX5 HG5 C5 HO5 HN5 hone hBs HK HCells
      subst hv
      go_wp2_with fail
      go_roundw
      case rel => exact ⟨k + 1, q, _, _, by omega, by go_num, Lib.hid HN2.out.2.2.1, Lib.hid HN2.out.2.1, HLq, HR6, HG6, HX6, C6⟩
      case measure => simp [intOf]; omega
    · obtain ⟨HkS, rfl⟩ : Hid (k = SS.length) ∧ r4 = rk := by
        have e := HMk.out
        have e2 : many rdS (n - k) rk = ([], rk) := by
          by_cases hE : rk.E = 0
          · rw [show n - k = 0 by omega]; rfl
          · exact many_stuck hE _
        rw [e2, Prod.mk.injEq] at e
        have h1 := HLk.out
        have h2 : SS.length ≤ k := List.drop_eq_nil_iff.1 e.1.symm
        exact ⟨Lib.hid (by omega), e.2.symm⟩
      have HEnd : Hid (ListSPost w p SS r4 (.returned (.slice a5 k c5')) wr) := Lib.hid (by
        have c := CC.out
        rw [HkS.out] at c ⊢
        exact ⟨_, _, _, _, rfl, c, HR.out, HG.out⟩)
      obtain ⟨zE, hz⟩ : ∃ z, z = r4.E := ⟨_, rfl⟩
      rw [← hz] at HFt
      clear HMk HkS
      by_cases hjn : k < n
      · have hd : decide (k < n) = true := decide_eq_true hjn
        have hd2 : (zE != 0) = true := bne_iff_ne.2 (fun h => hcont ⟨hjn, by rw [← hz]; exact h⟩)
        clear hz hcont
        go_wp2_with fail
        refine HFt.out.mono ?_; rintro e w2 ⟨rfl, rfl⟩
        clear HFt
        go_wp2_with fail
        go_ret
        exact HEnd.out
      · have hd : decide (k < n) = false := decide_eq_false hjn
        clear hz hcont HFt
        go_wp2_with fail
        go_ret
        exact HEnd.out
end
end Go.Proofs.Ytbpdoiikleaidaa
