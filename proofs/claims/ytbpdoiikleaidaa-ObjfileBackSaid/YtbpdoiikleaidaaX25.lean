/- The program's list of Rels. (written by mk_kl.py) -/
import Derived.Test.YtbpdoiikleaidaaX24
import Derived.LoopTactic
set_option linter.unusedVariables false
set_option linter.unusedSimpArgs false
namespace Go.Proofs.Ytbpdoiikleaidaa
open Go Go.RowKit Oj Pk Of

section
variable {w0 w w' : World} {p : Nat} {r r2 : Rd}
/-- What the list's call leaves. -/
def listRPost (w : World) (p : Nat) (l : List Rl) (r : Rd) (e : Ending) (w' : World) : Prop := ∃ a c, e = .returned (.slice a l.length c) ∧ OwnR w' w.heap.size (.slice a l.length c) l ∧ RpAt w' p r ∧ w.grownBy w' (some p)
set_option maxHeartbeats 8000000 in
set_option maxRecDepth 100000 in
theorem listR_any (w : World) (h : RpAt w p r) (hS : r.S.length ≤ 4194304) :
    Calls Try.prog 65 #[rdg p, .int .i64 2, .func (.func 66) #[rdg p] #[]] w (listRPost w p (many rdR (num r 2).1 (num r 2).2).1 (many rdR (num r 2).1 (num r 2).2).2) := by
  obtain ⟨iR, hi, hz, hs, hb⟩ := info_parts infoRel
  have HI := Lib.hid (And.intro hi (And.intro hz (And.intro hs hb)))
  clear hi hz hs hb
  have HB0 := Lib.hid (below1 w (.cells #[.pointer (some ⟨p, 0, none⟩)] 71))
  have HX0 := Lib.hid (Blk.new w 71 [.pointer (some ⟨p, 0, none⟩)])
  have hx0 := boxed1 w (.pointer (some ⟨p, 0, none⟩)) 71
  have HLp := Lib.hid (Blk.lt h)
  have HN := Lib.hid (gnum_any 2 _ (h.below (below1 w (.cells #[.pointer (some ⟨p, 0, none⟩)] 71))) (by omega))
  have bn : (num r 2).1 < 65536 := num2_lt r
  have ln : (num r 2).2.S.length ≤ 4194304 := Nat.le_trans (num_len 2) hS
  obtain ⟨n, hn⟩ : ∃ n, n = (num r 2).1 := ⟨_, rfl⟩
  obtain ⟨r3, hr3⟩ : ∃ q, q = (num r 2).2 := ⟨_, rfl⟩
  rw [← hn, ← hr3] at HN ⊢
  rw [← hn] at bn
  rw [← hr3] at ln
  obtain ⟨RS, hRS⟩ : ∃ t, t = (many rdR n r3).1 := ⟨_, rfl⟩
  obtain ⟨r4, hr4⟩ : ∃ t, t = (many rdR n r3).2 := ⟨_, rfl⟩
  have HM : Hid (many rdR n r3 = (RS, r4)) := Lib.hid (by rw [hRS, hr4])
  rw [← hRS, ← hr4]
  have HLn := Lib.hid ln
  have ibn : (n : Int) < 65536 := by omega
  unfold GPost at HN
  unfold rdg at HN ⊢
  clear hn hr3 hRS hr4 h hS ln bn
  go_enter Try.func65, Try.ntmps65
  go_wp2_with fail
  refine HN.out.mono ?_; rintro e w1 ⟨rfl, hr, hg⟩
  have HR1 := Lib.hid hr
  have HG1 := Lib.hid (gb_trans (grownB HB0.out (some p)) hg)
  have HX1 := Lib.hid (HX0.out.grown hg (fun e => by have := Option.some.inj e; have := HLp.out; omega))
  clear hr hg HN HX0 HB0 hx0
  go_wp2_with fail
  go_loopw [7, 11] (fun v i wr => ∃ (j : Nat) (rj : Rd) (acc : List Rl), (j : Int) ≤ n ∧ i = .int .u32 (j : Int) ∧ Hid (acc.length = j) ∧ Hid (many rdR n r3 = (acc ++ (many rdR (n - j) rj).1, (many rdR (n - j) rj).2)) ∧ Hid (rj.S.length ≤ 4194304) ∧ Hid (RpAt wr p rj) ∧ Hid (w.grownBy wr (some p)) ∧ Hid (Blk wr w.heap.size 71 [.pointer (some ⟨p, 0, none⟩)]) ∧ Hid (OwnR wr w.heap.size v acc)) (fun v i _ => n - (intOf i).toNat)
  case atStart => exact ⟨0, r3, [], by omega, rfl, Lib.hid rfl, Lib.hid (by simp), HLn, HR1, HG1, HX1, Lib.hid (World.ownsRow_nil _ _ _ _)⟩
  case round =>
    clear HR1 HG1 HX1
    obtain ⟨j, rj, acc, hj, rfl, HLa, HMa, HLj, HR, HG, HX, OO⟩ := hrel
    obtain ⟨a5, c5', hv5⟩ := row_slice OO.out
    subst hv5
    have c0 : wr.cell? ⟨w.heap.size, 0, none⟩ = some (.pointer (some ⟨p, 0, none⟩)) := HX.out.cell 0
    have HFt := Lib.hid (fault_any (p := p) rj.E wr (RpAt.cells HR.out).2.1)
    by_cases hcont : j < n ∧ rj.E = 0
    · obtain ⟨hjn, hE⟩ := hcont
      rw [hE] at HFt
      have hd : decide (j < n) = true := decide_eq_true hjn
      have HO1 := Lib.hid (grel_any (w := wr) HR.out HLj.out)
      obtain ⟨x, hx⟩ : ∃ x, x = (rdR rj).1 := ⟨_, rfl⟩
      obtain ⟨q, hq⟩ : ∃ q, q = (rdR rj).2 := ⟨_, rfl⟩
      have HN2 : Hid (many rdR n r3 = ((acc ++ [x]) ++ (many rdR (n - (j + 1)) q).1, (many rdR (n - (j + 1)) q).2)) := Lib.hid (by
        have e := many_step (f := rdR) (n := n - (j + 1)) hE
        rw [show n - (j + 1) + 1 = n - j by omega, ← hx, ← hq] at e
        rw [HMa.out, e]
        simp)
      have HAc : Hid ((acc ++ [x]).length = j + 1) := Lib.hid (by rw [List.length_append, HLa.out]; rfl)
      have HLq : Hid (q.S.length ≤ 4194304) := Lib.hid (by rw [hq]; exact Nat.le_trans (rdR_len rj) HLj.out)
      rw [← hx, ← hq] at HO1
      have hcl : (rlCells x).toArray = #[.int .u32 (x.off), .int .u8 (x.kind), .string (tx x.name), .int .u32 (x.add)] := rfl
      rw [hcl] at HO1
      obtain ⟨x0, gx0⟩ : ∃ u, u = x.off := ⟨_, rfl⟩
      obtain ⟨x1, gx1⟩ : ∃ u, u = x.kind := ⟨_, rfl⟩
      obtain ⟨x2, gx2⟩ : ∃ u, u = tx x.name := ⟨_, rfl⟩
      obtain ⟨x3, gx3⟩ : ∃ u, u = x.add := ⟨_, rfl⟩
      have HCx : Hid (rlCells x = [.int .u32 x0, .int .u8 x1, .string x2, .int .u32 x3]) := Lib.hid (by rw [gx0, gx1, gx2, gx3]; rfl)
      rw [← gx0, ← gx1, ← gx2, ← gx3] at HO1
      unfold GPost at HO1
      unfold rdg at HO1
      clear hcl hx hq hE HMa gx0 gx1 gx2 gx3
      go_wp2_with fail
      refine HFt.out.mono ?_; rintro e w2 ⟨rfl, rfl⟩
      clear HFt
      go_wp2_with fail
      refine HO1.out.mono ?_; rintro e w3 ⟨rfl, hr, hg⟩
      have HR3 := Lib.hid hr
      have HG3 := Lib.hid (gb_trans HG.out hg)
      have HX3 := Lib.hid (HX.out.grown hg (fun e => by have := Option.some.inj e; have := HLp.out; omega))
      have O3 : Hid (OwnR w3 w.heap.size (.slice a5 acc.length c5') acc) := Lib.hid (World.ownsRow.kept OO.out hg (.inr (row_block HR.out OO.out (by decide))))
      clear hr hg HO1 HR HG HX OO c0
      have HK : Hid (acc.length + 1 ≤ maxLen ∧ (acc.length + 1) * 32 ≤ 140737488355328) := Lib.hid (by rw [HLa.out]; unfold maxLen; omega)
      have HBx : Hid (w.heap.size ≤ (w3.alloc (.cells #[.int .u32 x0, .int .u8 x1, .string x2, .int .u32 x3] 49)).heap.size) := Lib.hid (by have := HG3.out.size; simp; omega)
      have HNw : Hid (∀ j u, ([.int .u32 x0, .int .u8 x1, .string x2, .int .u32 x3] : List Value)[j]? = some u → (w3.alloc (.cells #[.int .u32 x0, .int .u8 x1, .string x2, .int .u32 x3] 49)).cell? ((⟨w3.heap.size, 0, none⟩ : Addr).add j) = some u) := Lib.hid (World.news_of_block (cs := #[.int .u32 x0, .int .u8 x1, .string x2, .int .u32 x3]) (t := 49) (heap_alloc_new w3 _))
      have HOn : Hid (∀ u ∈ ([.int .u32 x0, .int .u8 x1, .string x2, .int .u32 x3] : List Value), u.oneCell' = true) := Lib.hid (by intro u hu; simp only [List.mem_cons, List.not_mem_nil, or_false] at hu; rcases hu with rfl | rfl | rfl | rfl <;> rfl)
      go_wp2_with (at_builtin; (refine wpList_append_own _ rfl _ _ 44 rfl w.heap.size 49 iR _ 4 32 Try.underlying44 HI.out.1 HI.out.2.1 HI.out.2.2.1 HI.out.2.2.2 rfl (by decide) _ _ _ rfl (World.ownsRow.alloc O3.out _) ⟨w3.heap.size, 0, none⟩ 1 1 [.int .u32 x0, .int .u8 x1, .string x2, .int .u32 x3] rfl rfl HNw.out HOn.out HK.out.1 HK.out.2 HBx.out ?_))
      intro v6 w4 h6 h7 _
      have O4 : Hid (OwnR w4 w.heap.size v6 (acc ++ [x])) := Lib.hid (by
        unfold OwnR
        have hcat : flat (fun j => rlCells (acc.getD j Rl.nought)) acc.length ++ [.int .u32 x0, .int .u8 x1, .string x2, .int .u32 x3] = flat (fun j => rlCells ((acc ++ [x]).getD j Rl.nought)) (acc ++ [x]).length := by
          rw [List.length_append, List.length_singleton, flat]
          congr 1
          · exact flat_congr _ (fun j hj => by rw [List.getD_eq_getElem?_getD, List.getD_eq_getElem?_getD, List.getElem?_append_left hj])
          · rw [← HCx.out]; simp
        rw [← hcat, List.length_append]
        exact h6)
      have HG4 := Lib.hid (gb_new (gb_new HG3.out (World.grownBy_alloc w3 (.cells #[.int .u32 x0, .int .u8 x1, .string x2, .int .u32 x3] 49) none) (fun k hk => by cases hk)) h7 (fun k hk => (World.ownsRow.lt O3.out k hk).1))
      have HR4 := Lib.hid (Blk.grown (Blk.alloc HR3.out (.cells #[.int .u32 x0, .int .u8 x1, .string x2, .int .u32 x3] 49)) h7 (fun e => row_block (Blk.alloc HR3.out (.cells #[.int .u32 x0, .int .u8 x1, .string x2, .int .u32 x3] 49)) (World.ownsRow.alloc O3.out _) (by decide) e.symm))
      have HX4 := Lib.hid (Blk.grown (Blk.alloc HX3.out (.cells #[.int .u32 x0, .int .u8 x1, .string x2, .int .u32 x3] 49)) h7 (fun e => row_block (Blk.alloc HX3.out (.cells #[.int .u32 x0, .int .u8 x1, .string x2, .int .u32 x3] 49)) (World.ownsRow.alloc O3.out _) (by decide) e.symm))
      obtain ⟨a6, c6, hv6⟩ := row_slice O4.out
      clear h6 h7 HK HBx HNw HOn HR3 HG3 HX3 O3 HCx
      subst hv6
      go_wp2_with fail
      go_roundw
      case rel => exact ⟨j + 1, q, acc ++ [x], by omega, by go_num, HAc, HN2, HLq, HR4, HG4, HX4, O4⟩
      case measure => simp [intOf]; omega
    · obtain ⟨rfl, rfl⟩ : RS = acc ∧ r4 = rj := by
        have e := HMa.out
        rw [HM.out] at e
        have e2 : many rdR (n - j) rj = ([], rj) := by
          by_cases hE : rj.E = 0
          · rw [show n - j = 0 by omega]; rfl
          · exact many_stuck hE _
        rw [e2] at e
        simp only [List.append_nil, Prod.mk.injEq] at e
        exact e
      obtain ⟨zE, hz⟩ : ∃ z, z = r4.E := ⟨_, rfl⟩
      rw [← hz] at HFt
      clear HMa
      by_cases hjn : j < n
      · have hd : decide (j < n) = true := decide_eq_true hjn
        have hd2 : (zE != 0) = true := bne_iff_ne.2 (fun h => hcont ⟨hjn, by rw [← hz]; exact h⟩)
        clear hz hcont
        go_wp2_with fail
        refine HFt.out.mono ?_; rintro e w2 ⟨rfl, rfl⟩
        clear HFt
        go_wp2_with fail
        go_ret
        exact ⟨_, _, rfl, OO.out, HR.out, HG.out⟩
      · have hd : decide (j < n) = false := decide_eq_false hjn
        clear hz hcont HFt
        go_wp2_with fail
        go_ret
        exact ⟨_, _, rfl, OO.out, HR.out, HG.out⟩
end
end Go.Proofs.Ytbpdoiikleaidaa
