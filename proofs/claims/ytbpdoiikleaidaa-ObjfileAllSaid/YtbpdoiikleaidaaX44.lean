/- The document's Get, walked. (written by mk_fe.py) -/
import Derived.Test.YtbpdoiikleaidaaX42
import Derived.Test.YtbpdoiikleaidaaX21
import Derived.Test.YtbpdoiikleaidaaX09
import Derived.Test.YtbpdoiikleaidaaQV
import Derived.Deep.RegionWith
import Derived.Deep.Onto
import Derived.StillTail
set_option linter.unusedVariables false
set_option linter.unusedSimpArgs false
namespace Go.Proofs.Ytbpdoiikleaidaa
open Go Go.RowKit Oj Pk Of

theorem seq_from {P : Program} {md : Region.Mode} {ops : Array Oper} {Q : Exit → Act → World → Prop} (k : Nat) {fuel : Nat} {listed : Array Bool} {a : Act} {w : World} (hl : (ops.toList.drop k).length = fuel) (hB : Region.seqB md ops fuel k listed = true) (h : wpList P ops Q (ops.toList.drop k) a w) : wpAny P md ops Q fuel listed a w := by
  subst hl
  exact wpAny_of_seq _ k _ _ _ (fun j => by rw [List.getElem?_drop]; simp) hB h
theorem magic_eq (m : ByteArray) : (m.toList == [65, 79, 66, 49]) = decide (by' m = magic) := by
  rw [Bool.eq_iff_iff, beq_iff_eq, decide_eq_true_eq, ByteArray.toList_eq]
  exact Iff.rfl
theorem rdS_len (r : Rd) : (rdS r).2.S.length ≤ r.S.length := by
  unfold rdS
  exact Nat.le_trans (many_len rdN_len _ _) (Nat.le_trans (num_len 1) (Nat.le_trans (many_len rdR_len _ _) (Nat.le_trans (num_len 2) (Nat.le_trans text_len (Nat.le_trans (num_len 4) (Nat.le_trans (num_len 1) (Nat.le_trans (num_len 1) text_len)))))))
def zeroO : List Value := [.string ⟨#[]⟩, .slice none 0 0]
theorem below_grown {B : Nat} {a b c : World} (h : Below B a b) {row : Option Nat} (h2 : b.grownBy c row) (hr : ∀ k, row = some k → B ≤ k) (hB : B ≤ b.heap.size) : Below B a c :=
  ⟨h2.os.trans h.os, h2.tape.trans h.tape, h2.output.trans h.output, Nat.le_trans h.size h2.size, fun k hk => (h2.block k (Nat.lt_of_lt_of_le hk hB) (fun e => by have := hr k e.symm; omega)).trans (h.block k hk)⟩
/-- What stands while an object is read. -/
structure Dg (w0 w : World) (g g2 go : Nat) (r : Rd) (cs : List Value) : Prop where
  rd : RdAt w g r
  res : Blk w g2 24 zeroO
  ob : Blk w go 24 cs
  low : Below w0.heap.size w0 w
  h1 : w0.heap.size ≤ g
  h2 : w0.heap.size ≤ g2
  h3 : w0.heap.size ≤ go
  n1 : g ≠ g2
  n2 : g ≠ go
  n3 : g2 ≠ go
section
variable {w0 w w' : World} {g g2 go : Nat} {r r2 : Rd} {cs : List Value}
theorem Dg.sz (h : Dg w0 w g g2 go r cs) : w0.heap.size ≤ w.heap.size := h.low.size
theorem Dg.read (h : Dg w0 w g g2 go r cs) (hr : RdAt w' g r2) (hg : w.grownBy w' (some g)) : Dg w0 w' g g2 go r2 cs :=
  ⟨hr, h.res.grown hg (fun e => by cases e; exact h.n1 rfl), h.ob.grown hg (fun e => by cases e; exact h.n2 rfl), below_grown h.low hg (fun k hk => by cases hk; exact h.h1) h.sz, h.h1, h.h2, h.h3, h.n1, h.n2, h.n3⟩
theorem Dg.set_ (h : Dg w0 w g g2 go r cs) (i : Nat) (u : Value) : Dg w0 (w.setCell ⟨go, i, none⟩ u) g g2 go r (cs.set i u) :=
  ⟨Blk.far h.rd (p := ⟨go, i, none⟩) h.n2 u, h.res.far (p := ⟨go, i, none⟩) h.n3 u, h.ob.set_ i u, below_grown h.low (grown_set w go i u) (fun k hk => by cases hk; exact h.h3) h.sz, h.h1, h.h2, h.h3, h.n1, h.n2, h.n3⟩
theorem Dg.other (h : Dg w0 w g g2 go r cs) {row : Option Nat} (hg : w.grownBy w' row) (hr : ∀ k, row = some k → w0.heap.size ≤ k ∧ k ≠ g ∧ k ≠ g2 ∧ k ≠ go) : Dg w0 w' g g2 go r cs :=
  ⟨Blk.grown h.rd hg (fun e => (hr g e.symm).2.1 rfl), h.res.grown hg (fun e => (hr g2 e.symm).2.2.1 rfl), h.ob.grown hg (fun e => (hr go e.symm).2.2.2 rfl), below_grown h.low hg (fun k hk => (hr k hk).1) h.sz, h.h1, h.h2, h.h3, h.n1, h.n2, h.n3⟩
theorem Dg.alloc (h : Dg w0 w g g2 go r cs) (o : Obj) : Dg w0 (w.alloc o) g g2 go r cs :=
  h.other (World.grownBy_alloc w o none) (fun k hk => by cases hk)
end
theorem Cp8.rdr {w w' : World} {B g : Nat} {l : List Sy} {k : Nat} {v : Value} {R N : Nat → Value} {cs : List Value} (h : Cp8 w B l k v R N) (hb : Blk w g 76 cs) (hg : w.grownBy w' (some g)) : Cp8 w' B l k v R N :=
  ⟨h.row.kept hg (.inr (row_block hb h.row (by decide))), fun j hj => World.ownsRow.kept (h.rels j hj) hg (.inr (row_block hb (h.rels j hj) (by decide))), fun j hj => World.ownsRow.kept (h.notes j hj) hg (.inr (row_block hb (h.notes j hj) (by decide)))⟩
/-- What stands behind the symbol's call. -/
def SymAt8 (w : World) (g go : Nat) (nm : ByteArray) (X : Sy) (q : Rd) (SS : List Sy) (k : Nat) (v : Value) (R N : Nat → Value) (w5 : World) (vr vn : Value) : Prop :=
  OwnR w5 w.heap.size vr X.rels ∧ OwnN w5 w.heap.size vn X.notes ∧ Dg w w5 g w.heap.size go q [.string nm, v] ∧ Cp8 w5 w.heap.size SS k v R N
theorem sym_call {w wr : World} {g go : Nat} {nm : ByteArray} {rk : Rd} {SS : List Sy} {k : Nat} {v : Value} {R N : Nat → Value} (D : Dg w wr g w.heap.size go rk [.string nm, v]) (C : Cp8 wr w.heap.size SS k v R N) (lrk : rk.S.length ≤ 1048576) (W : World) (hW : Below wr.heap.size wr W) :
    Calls Try.prog 31 #[.pointer (some ⟨g, 0, none⟩)] W fun e w5 => ∃ ar cr an cn, e = .returned (.agg #[.string (tx (rdS rk).1.name), .int .u8 (rdS rk).1.bind, .int .u8 (rdS rk).1.kind, .int .u32 (rdS rk).1.size, .string (tx (rdS rk).1.bytes), .slice ar (rdS rk).1.rels.length cr, .slice an (rdS rk).1.notes.length cn]) ∧ SymAt8 w g go nm (rdS rk).1 (rdS rk).2 SS k v R N w5 (.slice ar (rdS rk).1.rels.length cr) (.slice an (rdS rk).1.notes.length cn) := by
  have hg : wr.grownBy W none := ⟨hW.os, hW.tape, hW.output, hW.size, fun i hi _ => hW.block i hi⟩
  have D2 := D.other hg (fun k hk => by cases hk)
  have C2 := C.below hW
  refine (dsym_any g rk W D2.rd lrk).mono ?_
  rintro e w5 ⟨ar, cr, an, cn, rfl, hr, hn, hrd, hgr⟩
  exact ⟨ar, cr, an, cn, rfl, World.ownsRow.mono hr D2.sz, World.ownsRow.mono hn D2.sz, D2.read hrd hgr, C2.rdr D2.rd hgr⟩
set_option maxHeartbeats 16000000 in
set_option maxRecDepth 100000 in
theorem dget_any (s : List UInt8) (w : World) (hs : s.length ≤ 1048576) : Calls Try.prog 14 #[.string (tx s)] w fun e w' => ∃ v : Value, ∃ c : Int, e = .returned (.tuple #[v, .int .i64 c]) ∧ Below w.heap.size w w' ∧ GetPost w.heap.size (getO s) c v w' := by
  obtain ⟨r, hr⟩ : ∃ t, t = (⟨s, 0⟩ : Rd) := ⟨_, rfl⟩
  have lr : r.S.length ≤ 1048576 := by rw [hr]; exact hs
  obtain ⟨M, hM⟩ : ∃ t, t = tx s := ⟨_, rfl⟩
  rw [← hM]
  have HM := Lib.hid hM
  obtain ⟨mg, hmg⟩ : ∃ t, t = tx (take r 4).1 := ⟨_, rfl⟩
  obtain ⟨r1, hr1⟩ : ∃ t, t = (take r 4).2 := ⟨_, rfl⟩
  obtain ⟨g, hg⟩ : ∃ t, t = w.heap.size + 1 := ⟨_, rfl⟩
  have Hmg : Hid (∀ W, RdAt W g r → Calls Try.prog 28 #[.pointer (some ⟨g, 0, none⟩), .int .i64 4] W fun e w' => e = .returned (.tuple #[.string mg, .int .i64 r1.E]) ∧ RdAt w' g r1 ∧ W.grownBy w' (some g)) := Lib.hid (fun W hW => by rw [hmg, hr1]; exact rdtake_any 4 W hW (by omega))
  have lr1 : r1.S.length ≤ 1048576 := by rw [hr1]; exact Nat.le_trans (take_len 4) lr
  obtain ⟨nm, hnm⟩ : ∃ t, t = tx (text r1).1 := ⟨_, rfl⟩
  obtain ⟨r2, hr2⟩ : ∃ t, t = (text r1).2 := ⟨_, rfl⟩
  have Hnm : Hid (∀ W, RdAt W g r1 → Calls Try.prog 29 #[.pointer (some ⟨g, 0, none⟩)] W fun e w' => e = .returned (.string nm) ∧ RdAt w' g r2 ∧ W.grownBy w' (some g)) := Lib.hid (fun W hW => by rw [hnm, hr2]; exact dword_any W hW (by omega))
  have lr2 : r2.S.length ≤ 1048576 := by rw [hr2]; exact Nat.le_trans text_len lr1
  obtain ⟨n, hn⟩ : ∃ t, t = (num r2 2).1 := ⟨_, rfl⟩
  obtain ⟨r3, hr3⟩ : ∃ t, t = (num r2 2).2 := ⟨_, rfl⟩
  have Hn : Hid (∀ W, RdAt W g r2 → Calls Try.prog 30 #[.pointer (some ⟨g, 0, none⟩), .int .i64 2] W fun e w' => e = .returned (.int .u32 (n : Nat)) ∧ RdAt w' g r3 ∧ W.grownBy w' (some g)) := Lib.hid (fun W hW => by rw [hn, hr3]; exact done_any 2 W hW (by omega))
  have bn : n < 65536 := by rw [hn]; exact num2_lt r2
  have lr3 : r3.S.length ≤ 1048576 := by rw [hr3]; exact Nat.le_trans (num_len 2) lr2
  have ibn : (n : Int) < 65536 := by omega
  obtain ⟨G, hG⟩ : ∃ t, t = getO s := ⟨_, rfl⟩
  obtain ⟨SS, hSS⟩ : ∃ t, t = (many rdS n r3).1 := ⟨_, rfl⟩
  obtain ⟨r4, hr4⟩ : ∃ t, t = (many rdS n r3).2 := ⟨_, rfl⟩
  have HMM : Hid (many rdS n r3 = (SS, r4)) := Lib.hid (by rw [hSS, hr4])
  have lr4 : r4.S.length ≤ 1048576 := by rw [hr4]; exact Nat.le_trans (many_len rdS_len n r3) lr3
  have HGo : Hid (G = if (fin r4).E = 0 ∧ (by' mg) = magic ∧ obOk ⟨by' nm, SS⟩ = true then some ⟨by' nm, SS⟩ else none) := Lib.hid (by
    rw [hG, hnm, hmg, by_tx, by_tx, hSS, hr4, hn, hr3, hr2, hr1, hr]
    rfl)
  rw [← hG]
  have HFit : Hid (obFits ⟨by' nm, SS⟩) := Lib.hid (by rw [hnm, by_tx, hSS]; exact rd_obFits (by have := text_one_len r1; omega) bn (by omega))
  have HR0 : Hid (RdAt ((w.alloc (.cells #[.string ⟨#[]⟩, .slice none 0 0] 24)).alloc (.cells #[.string M, .int .i64 0] 76)) g r) := Lib.hid (by rw [hr, hM, hg]; exact Blk.new2 w (.cells #[.string ⟨#[]⟩, .slice none 0 0] 24) 76 [.string (tx s), .int .i64 0])
  have HZ0 := Lib.hid ((Blk.new w 24 zeroO).alloc (.cells #[.string M, .int .i64 0] 76))
  have HB0 := Lib.hid (below_new2 w (.cells #[.string ⟨#[]⟩, .slice none 0 0] 24) (.cells #[.string M, .int .i64 0] 76))
  have HGG := Lib.hid hg
  obtain ⟨iS, hiS, hzS, hsS, hbS⟩ := info_parts infoSym
  have HI := Lib.hid (And.intro hiS (And.intro hzS (And.intro hsS hbS)))
  clear hiS hzS hsS hbS hr hM hmg hr1 hnm hr2 hn hr3 hG hSS hr4 hs
  go_enter Try.func14, Try.ntmps14
  go_wp2_with fail
  rw [← hg]
  clear hg
  refine (Hmg.out _ HR0.out).mono ?_; rintro e w1 ⟨rfl, hr, hg⟩
  have R1 := Lib.hid hr
  have Z1 := Lib.hid (HZ0.out.grown hg (fun e => by have := Option.some.inj e; have := HGG.out; omega))
  have B1 := Lib.hid (below_grown HB0.out hg (fun k hk => by cases hk; have := HGG.out; omega) HB0.out.size)
  clear hr hg HR0 HZ0 HB0 Hmg
  go_wp2_with fail
  refine (Hnm.out _ R1.out).mono ?_; rintro e w2 ⟨rfl, hr, hg⟩
  have D2 : Hid (Dg w (w2.alloc (.cells #[.string nm, .slice none 0 0] 24)) g w.heap.size w2.heap.size r2 [.string nm, .slice none 0 0]) := Lib.hid (by
    have z := Z1.out.grown hg (fun e => by have := Option.some.inj e; have := HGG.out; omega)
    have b := below_grown B1.out hg (fun k hk => by cases hk; have := HGG.out; omega) B1.out.size
    have l1 := Blk.lt hr
    have l2 := z.lt
    have := HGG.out
    exact ⟨Blk.alloc hr _, z.alloc _, Blk.new w2 _ _, below_grown b (World.grownBy_alloc w2 _ none) (fun k hk => by cases hk) b.size, by omega, Nat.le_refl _, b.size, by omega, by omega, by omega⟩)
  clear hr hg R1 Z1 B1 Hnm
  obtain ⟨go, hgo⟩ : ∃ t, t = w2.heap.size := ⟨_, rfl⟩
  go_upto_region 3 with (fail)
  obtain ⟨w3, hw⟩ : ∃ t, t = w2.alloc (.cells #[.string nm, .slice none 0 0] 24) := ⟨_, rfl⟩
  rw [← hw] at D2 ⊢
  rw [← hgo] at D2 ⊢
  clear hw hgo
  refine (Hn.out _ D2.out.rd).mono ?_; rintro e w4 ⟨rfl, hr, hg⟩
  have D4 := Lib.hid (D2.out.read hr hg)
  clear hr hg D2 Hn
  go_wp2_with fail
  go_loopw [9] (fun i wr => ∃ (k : Nat) (rk : Rd) (v : Value) (R N : Nat → Value), (k : Int) ≤ n ∧ i = .int .u32 (k : Int) ∧ Hid (k ≤ SS.length) ∧ Hid (many rdS (n - k) rk = (SS.drop k, r4)) ∧ Hid (rk.S.length ≤ 1048576) ∧ Hid (Dg w wr g w.heap.size go rk [.string nm, v]) ∧ Hid (Cp8 wr w.heap.size SS k v R N)) (fun i _ => n - (intOf i).toNat)
  case atStart => exact ⟨0, r3, .slice none 0 0, fun _ => undef, fun _ => undef, by omega, rfl, Lib.hid (Nat.zero_le _), HMM, Lib.hid lr3, D4, Lib.hid ⟨World.ownsRow_nil _ _ _ _, fun j hj => absurd hj (by omega), fun j hj => absurd hj (by omega)⟩⟩
  case round =>
    clear D4
    obtain ⟨k, rk, v, R, N, hk, rfl, HLk, HMk, HRk, DD, CC⟩ := hrel
    obtain ⟨a5, c5', hv5⟩ := row_slice CC.out.row
    subst hv5
    have lrk := HRk.out
    have e1 : wr.cell? ⟨g, 1, none⟩ = some (.int .i64 rk.E) := (RdAt.cells DD.out.rd).2.1
    have hgl : g < wr.heap.size := Blk.lt DD.out.rd
    by_cases hcont : k < n ∧ rk.E = 0
    · obtain ⟨hkn, hE⟩ := hcont
      rw [hE] at e1
      have hd : decide (k < n) = true := decide_eq_true hkn
      obtain ⟨X, hX⟩ : ∃ t, t = (rdS rk).1 := ⟨_, rfl⟩
      obtain ⟨q, hq⟩ : ∃ t, t = (rdS rk).2 := ⟨_, rfl⟩
      have HC := Lib.hid (sym_call DD.out CC.out lrk)
      rw [← hX, ← hq] at HC
      obtain ⟨u0, g0⟩ : ∃ u, u = tx X.name := ⟨_, rfl⟩
      obtain ⟨u1, g1⟩ : ∃ u, u = X.bind := ⟨_, rfl⟩
      obtain ⟨u2, g2⟩ : ∃ u, u = X.kind := ⟨_, rfl⟩
      obtain ⟨u3, g3⟩ : ∃ u, u = X.size := ⟨_, rfl⟩
      obtain ⟨u4, g4⟩ : ∃ u, u = tx X.bytes := ⟨_, rfl⟩
      obtain ⟨rn, hrn⟩ : ∃ x, x = X.rels.length := ⟨_, rfl⟩
      obtain ⟨nn, hnn⟩ : ∃ x, x = X.notes.length := ⟨_, rfl⟩
      have HCells : Hid (∀ x y, syCells X x y = [.string u0, .int .u8 u1, .int .u8 u2, .int .u32 u3, .string u4, x, y]) := Lib.hid (fun x y => by unfold syCells; rw [g0, g1, g2, g3, g4])
      rw [← g0, ← g1, ← g2, ← g3, ← g4, ← hrn, ← hnn] at HC
      clear g0 g1 g2 g3 g4 hrn hnn
      have HN2 : Hid (SS.drop k = X :: SS.drop (k + 1) ∧ many rdS (n - (k + 1)) q = (SS.drop (k + 1), r4) ∧ k + 1 ≤ SS.length ∧ SS.getD k Sy.nought = X) := Lib.hid (by
        have e := many_step (f := rdS) (n := n - (k + 1)) hE
        rw [show n - (k + 1) + 1 = n - k by omega, HMk.out, ← hX, ← hq, Prod.mk.injEq] at e
        have hlt : k < SS.length := by
          rcases Nat.lt_or_ge k SS.length with h | h
          · exact h
          · rw [List.drop_eq_nil_of_le h] at e; cases e.1
        have hdr := List.drop_eq_getElem_cons hlt
        rw [hdr, List.cons.injEq] at e
        refine ⟨by rw [hdr, e.1.1], ?_, hlt, ?_⟩
        · rw [e.1.2, e.2]
        · rw [List.getD_eq_getElem?_getD, List.getElem?_eq_getElem hlt]; exact e.1.1)
      have HLq : Hid (q.S.length ≤ 1048576) := Lib.hid (by rw [hq]; exact Nat.le_trans (rdS_len rk) lrk)
      clear hE hX hq HMk
      have s1 : wr.cell? ⟨go, 1, none⟩ = some (.slice a5 k c5') := DD.out.ob.cell 1
      go_upto_region 8 with (fail)
      have HCo : Hid (∀ W vr vn, SymAt8 w g go nm X q SS k (.slice a5 k c5') R N W vr vn → W.cell? ⟨go, 1, none⟩ = some (.slice a5 k c5')) := Lib.hid (fun W vr vn h => h.2.2.1.ob.cell 1)
      have HK : Hid (k + 1 ≤ maxLen ∧ (k + 1) * 88 ≤ 140737488355328) := Lib.hid (by unfold maxLen; omega)
      clear HLk HRk
      have hB0 := Below.refl wr.heap.size wr
      refine wp_region_any (by kernel_rfl) ?_
      change wpAny _ _ _ _ _ _ _ (World.drew _)
      refine wpAny_take (i := 0) (v := .pointer (some ⟨go, 1, none⟩)) rfl (by kernel_rfl) (by kernel_rfl) (by kernel_rfl) (fun _ _ _ h => h) (Or.inl ⟨by rfl, fun W => by go_simp⟩) ?_
      refine wpAny_take (i := 2) (v := .pointer (some ⟨g, 0, none⟩)) rfl (by kernel_rfl) (by kernel_rfl) (by kernel_rfl) (fun _ _ _ h => h) (Or.inl ⟨by rfl, fun W => by go_simp⟩) ?_
      refine wpAny_ready (rs := [1, 3]) (by kernel_rfl) (by simp) (AllReady.cons rfl (fun K hK => ?_) (AllReady.cons rfl (fun K hK => ?_) AllReady.nil))
      · go_simp
        refine hK _ _ ?_
        clear hK K
        refine seq_from 3 rfl (by kernel_rfl) ?_
        simp only [List.drop_succ_cons, List.drop_zero]
        go_wp2_with (first
          | (go_at_call 31; refine (HC.out _ ?_).mono ?_; exact hB0.drew; rintro e w5 ⟨ar, cr, an, cn, rfl, hS⟩; have s5 := HCo.out _ _ _ hS; have HS := Lib.hid hS; have z5 := hS.2.2.1.ob.lt; clear hS; have hone : Hid (∀ u ∈ [Value.string u0, .int .u8 u1, .int .u8 u2, .int .u32 u3, .string u4, .slice ar rn cr, .slice an nn cn], u.oneCell' = true) := Lib.hid (by rw [← HCells.out]; exact sy_one _ _ _ _ _ _ _); have hBs : Hid (w.heap.size ≤ (w5.alloc (.cells #[.string u0, .int .u8 u1, .int .u8 u2, .int .u32 u3, .string u4, .slice ar rn cr, .slice an nn cn] 47)).heap.size) := Lib.hid (by have := HS.out.2.2.1.sz; simp; omega))
          | (at_builtin; refine wpList_append_own _ rfl _ _ 22 rfl w.heap.size 47 iS _ 7 88 Try.underlying22 HI.out.1 HI.out.2.1 HI.out.2.2.1 HI.out.2.2.2 rfl (by decide) _ _ _ rfl (HS.out.2.2.2.row.alloc _) ⟨w5.heap.size, 0, none⟩ 1 1 [Value.string u0, .int .u8 u1, .int .u8 u2, .int .u32 u3, .string u4, .slice ar rn cr, .slice an nn cn] rfl rfl (new_sym _ _ _ _ _ _ _ _) hone.out HK.out.1 HK.out.2 hBs.out ?_))
        intro v6 w6 h6 h7 _
        have hCx := HS.out.2.2.2.below (below_new1 w5 (.cells #[.string u0, .int .u8 u1, .int .u8 u2, .int .u32 u3, .string u4, .slice ar rn cr, .slice an nn cn] 47))
        have hRx := row_below HS.out.1 (below_new1 w5 (.cells #[.string u0, .int .u8 u1, .int .u8 u2, .int .u32 u3, .string u4, .slice ar rn cr, .slice an nn cn] 47))
        have hNx := row_below HS.out.2.1 (below_new1 w5 (.cells #[.string u0, .int .u8 u1, .int .u8 u2, .int .u32 u3, .string u4, .slice ar rn cr, .slice an nn cn] 47))
        have hDx := HS.out.2.2.1.alloc (.cells #[.string u0, .int .u8 u1, .int .u8 u2, .int .u32 u3, .string u4, .slice ar rn cr, .slice an nn cn] 47)
        have C6 := Lib.hid (hCx.more (v' := v6) (r := .slice ar rn cr) (n := .slice an nn cn) (by rw [HN2.out.2.2.2]; exact hRx) (by rw [HN2.out.2.2.2]; exact hNx) (by rw [HN2.out.2.2.2, HCells.out]; exact h6) h7)
        have D6 := Lib.hid (hDx.other h7 (fun i hi => ⟨(hCx.row.lt i hi).1, fun e => row_block hDx.rd hCx.row (by decide) (by rw [hi, e]), fun e => row_block hDx.res hCx.row (by decide) (by rw [hi, e]), fun e => row_block hDx.ob hCx.row (by decide) (by rw [hi, e])⟩))
        obtain ⟨a7, c7, hv⟩ := row_slice C6.out.row
        clear h6 h7 hCx hRx hNx hDx HS s5 z5 hone hBs
        subst hv
        have s6 : w6.cell? ⟨go, 1, none⟩ = some (.slice a5 k c5') := D6.out.ob.cell 1
        have f6 : w6.frozen? ⟨go, 1, none⟩ = false := D6.out.ob.frozen 1
        have z6 : go < w6.heap.size := D6.out.ob.lt
        go_wp2_with fail
        have D7 := Lib.hid (D6.out.set_ 1 (.slice a7 (k + 1) c7))
        have C7 := Lib.hid (C6.out.obj D6.out.ob (grown_set w6 go 1 (.slice a7 (k + 1) c7)))
        simp only [List.set_cons_zero, List.set_cons_succ] at D7
        clear s6 f6 z6 D6 C6
        go_roundw
        case rel => exact ⟨k + 1, q, .slice a7 (k + 1) c7, _, _, by omega, by go_num, Lib.hid HN2.out.2.2.1, Lib.hid HN2.out.2.1, HLq, D7, C7⟩
        case measure => simp [intOf]; omega
      · go_simp
        go_wp2_with (go_at_call 31; refine (HC.out _ ?_).mono ?_; exact hB0.drew; rintro e w5 ⟨ar, cr, an, cn, rfl, hS⟩; have s5 := HCo.out _ _ _ hS; have HS := Lib.hid hS; have z5 := hS.2.2.1.ob.lt; clear hS)
        refine wpAny_ready (rs := [1, 4]) (by kernel_rfl) (by simp) (AllReady.cons rfl (fun K hK => ?_) (AllReady.cons rfl (fun K hK => ?_) AllReady.nil))
        · go_simp
          refine hK _ _ ?_
          clear hK K
          refine seq_from 4 rfl (by kernel_rfl) ?_
          simp only [List.drop_succ_cons, List.drop_zero]
          have hone : Hid (∀ u ∈ [Value.string u0, .int .u8 u1, .int .u8 u2, .int .u32 u3, .string u4, .slice ar rn cr, .slice an nn cn], u.oneCell' = true) := Lib.hid (by rw [← HCells.out]; exact sy_one _ _ _ _ _ _ _)
          have hBs : Hid (w.heap.size ≤ (w5.alloc (.cells #[.string u0, .int .u8 u1, .int .u8 u2, .int .u32 u3, .string u4, .slice ar rn cr, .slice an nn cn] 47)).heap.size) := Lib.hid (by have := HS.out.2.2.1.sz; simp; omega)
          go_wp2_with (at_builtin; refine wpList_append_own _ rfl _ _ 22 rfl w.heap.size 47 iS _ 7 88 Try.underlying22 HI.out.1 HI.out.2.1 HI.out.2.2.1 HI.out.2.2.2 rfl (by decide) _ _ _ rfl (HS.out.2.2.2.row.alloc _) ⟨w5.heap.size, 0, none⟩ 1 1 [Value.string u0, .int .u8 u1, .int .u8 u2, .int .u32 u3, .string u4, .slice ar rn cr, .slice an nn cn] rfl rfl (new_sym _ _ _ _ _ _ _ _) hone.out HK.out.1 HK.out.2 hBs.out ?_)
          intro v6 w6 h6 h7 _
          have hCx := HS.out.2.2.2.below (below_new1 w5 (.cells #[.string u0, .int .u8 u1, .int .u8 u2, .int .u32 u3, .string u4, .slice ar rn cr, .slice an nn cn] 47))
          have hRx := row_below HS.out.1 (below_new1 w5 (.cells #[.string u0, .int .u8 u1, .int .u8 u2, .int .u32 u3, .string u4, .slice ar rn cr, .slice an nn cn] 47))
          have hNx := row_below HS.out.2.1 (below_new1 w5 (.cells #[.string u0, .int .u8 u1, .int .u8 u2, .int .u32 u3, .string u4, .slice ar rn cr, .slice an nn cn] 47))
          have hDx := HS.out.2.2.1.alloc (.cells #[.string u0, .int .u8 u1, .int .u8 u2, .int .u32 u3, .string u4, .slice ar rn cr, .slice an nn cn] 47)
          have C6 := Lib.hid (hCx.more (v' := v6) (r := .slice ar rn cr) (n := .slice an nn cn) (by rw [HN2.out.2.2.2]; exact hRx) (by rw [HN2.out.2.2.2]; exact hNx) (by rw [HN2.out.2.2.2, HCells.out]; exact h6) h7)
          have D6 := Lib.hid (hDx.other h7 (fun i hi => ⟨(hCx.row.lt i hi).1, fun e => row_block hDx.rd hCx.row (by decide) (by rw [hi, e]), fun e => row_block hDx.res hCx.row (by decide) (by rw [hi, e]), fun e => row_block hDx.ob hCx.row (by decide) (by rw [hi, e])⟩))
          obtain ⟨a7, c7, hv⟩ := row_slice C6.out.row
          clear h6 h7 hCx hRx hNx hDx HS s5 z5 hone hBs
          subst hv
          have s6 : w6.cell? ⟨go, 1, none⟩ = some (.slice a5 k c5') := D6.out.ob.cell 1
          have f6 : w6.frozen? ⟨go, 1, none⟩ = false := D6.out.ob.frozen 1
          have z6 : go < w6.heap.size := D6.out.ob.lt
          go_wp2_with fail
          have D7 := Lib.hid (D6.out.set_ 1 (.slice a7 (k + 1) c7))
          have C7 := Lib.hid (C6.out.obj D6.out.ob (grown_set w6 go 1 (.slice a7 (k + 1) c7)))
          simp only [List.set_cons_zero, List.set_cons_succ] at D7
          clear s6 f6 z6 D6 C6
          go_roundw
          case rel => exact ⟨k + 1, q, .slice a7 (k + 1) c7, _, _, by omega, by go_num, Lib.hid HN2.out.2.2.1, Lib.hid HN2.out.2.1, HLq, D7, C7⟩
          case measure => simp [intOf]; omega
        · go_simp
          go_wp2_with fail
          refine wpAny_ready (rs := [1]) (by kernel_rfl) (by simp) (AllReady.cons rfl (fun K hK => ?_) AllReady.nil)
          go_simp
          refine hK _ _ ?_
          clear hK K
          refine seq_from 5 rfl (by kernel_rfl) ?_
          simp only [List.drop_succ_cons, List.drop_zero]
          have hone : Hid (∀ u ∈ [Value.string u0, .int .u8 u1, .int .u8 u2, .int .u32 u3, .string u4, .slice ar rn cr, .slice an nn cn], u.oneCell' = true) := Lib.hid (by rw [← HCells.out]; exact sy_one _ _ _ _ _ _ _)
          have hBs : Hid (w.heap.size ≤ (w5.alloc (.cells #[.string u0, .int .u8 u1, .int .u8 u2, .int .u32 u3, .string u4, .slice ar rn cr, .slice an nn cn] 47)).heap.size) := Lib.hid (by have := HS.out.2.2.1.sz; simp; omega)
          go_wp2_with (at_builtin; refine wpList_append_own _ rfl _ _ 22 rfl w.heap.size 47 iS _ 7 88 Try.underlying22 HI.out.1 HI.out.2.1 HI.out.2.2.1 HI.out.2.2.2 rfl (by decide) _ _ _ rfl (HS.out.2.2.2.row.alloc _) ⟨w5.heap.size, 0, none⟩ 1 1 [Value.string u0, .int .u8 u1, .int .u8 u2, .int .u32 u3, .string u4, .slice ar rn cr, .slice an nn cn] rfl rfl (new_sym _ _ _ _ _ _ _ _) hone.out HK.out.1 HK.out.2 hBs.out ?_)
          intro v6 w6 h6 h7 _
          have hCx := HS.out.2.2.2.below (below_new1 w5 (.cells #[.string u0, .int .u8 u1, .int .u8 u2, .int .u32 u3, .string u4, .slice ar rn cr, .slice an nn cn] 47))
          have hRx := row_below HS.out.1 (below_new1 w5 (.cells #[.string u0, .int .u8 u1, .int .u8 u2, .int .u32 u3, .string u4, .slice ar rn cr, .slice an nn cn] 47))
          have hNx := row_below HS.out.2.1 (below_new1 w5 (.cells #[.string u0, .int .u8 u1, .int .u8 u2, .int .u32 u3, .string u4, .slice ar rn cr, .slice an nn cn] 47))
          have hDx := HS.out.2.2.1.alloc (.cells #[.string u0, .int .u8 u1, .int .u8 u2, .int .u32 u3, .string u4, .slice ar rn cr, .slice an nn cn] 47)
          have C6 := Lib.hid (hCx.more (v' := v6) (r := .slice ar rn cr) (n := .slice an nn cn) (by rw [HN2.out.2.2.2]; exact hRx) (by rw [HN2.out.2.2.2]; exact hNx) (by rw [HN2.out.2.2.2, HCells.out]; exact h6) h7)
          have D6 := Lib.hid (hDx.other h7 (fun i hi => ⟨(hCx.row.lt i hi).1, fun e => row_block hDx.rd hCx.row (by decide) (by rw [hi, e]), fun e => row_block hDx.res hCx.row (by decide) (by rw [hi, e]), fun e => row_block hDx.ob hCx.row (by decide) (by rw [hi, e])⟩))
          obtain ⟨a7, c7, hv⟩ := row_slice C6.out.row
          clear h6 h7 hCx hRx hNx hDx HS s5 z5 hone hBs
          subst hv
          have s6 : w6.cell? ⟨go, 1, none⟩ = some (.slice a5 k c5') := D6.out.ob.cell 1
          have f6 : w6.frozen? ⟨go, 1, none⟩ = false := D6.out.ob.frozen 1
          have z6 : go < w6.heap.size := D6.out.ob.lt
          go_wp2_with fail
          have D7 := Lib.hid (D6.out.set_ 1 (.slice a7 (k + 1) c7))
          have C7 := Lib.hid (C6.out.obj D6.out.ob (grown_set w6 go 1 (.slice a7 (k + 1) c7)))
          simp only [List.set_cons_zero, List.set_cons_succ] at D7
          clear s6 f6 z6 D6 C6
          go_roundw
          case rel => exact ⟨k + 1, q, .slice a7 (k + 1) c7, _, _, by omega, by go_num, Lib.hid HN2.out.2.2.1, Lib.hid HN2.out.2.1, HLq, D7, C7⟩
          case measure => simp [intOf]; omega
    · obtain ⟨HkS, rfl⟩ : Hid (k = SS.length) ∧ r4 = rk := by
        have e := HMk.out
        have e2 : many rdS (n - k) rk = ([], rk) := by
          by_cases hE : rk.E = 0
          · rw [show n - k = 0 by omega]; rfl
          · exact many_stuck hE _
        rw [e2, Prod.mk.injEq] at e
        have h1 := HLk.out
        have h2 : SS.length ≤ k := List.drop_eq_nil_iff.1 e.1.symm
        exact ⟨Lib.hid (by omega), e.2.symm⟩
      obtain ⟨z, hz⟩ : ∃ z, z = r4.E := ⟨_, rfl⟩
      rw [← hz] at e1
      obtain ⟨F, hF⟩ : ∃ F, F = (fin r4).E := ⟨_, rfl⟩
      have HEnd : Hid (∀ W, RdAt W g r4 → Calls Try.prog 32 #[.pointer (some ⟨g, 0, none⟩)] W fun x w' => x = .returned (.int .i64 F) ∧ RdAt w' g (fin r4) ∧ W.grownBy w' (some g)) := Lib.hid (fun W hW => by rw [hF]; exact rdend_any W hW)
      rw [← hF] at HGo
      clear HMk HLk HRk
      by_cases hkn : k < n
      case' pos =>
        have hd : decide (k < n) = true := decide_eq_true hkn
        have hd2 : (z == 0) = false := beq_eq_false_iff_ne.2 (fun h => hcont ⟨hkn, by rw [← hz]; exact h⟩)
      case' neg =>
        have hd : decide (k < n) = false := decide_eq_false hkn
      all_goals (
        clear hz hcont hF
        go_wp2_with fail
        refine (HEnd.out _ DD.out.rd).mono ?_; rintro e w5 ⟨rfl, hr, hg⟩
        have D5 := Lib.hid (DD.out.read hr hg)
        have C5 := Lib.hid (CC.out.rdr DD.out.rd hg)
        clear hr hg DD CC HEnd e1 hgl
        try clear hd2 z
        clear hd hkn
        obtain ⟨bF, hbF2⟩ : ∃ b, (F != 0) = b := ⟨_, rfl⟩
        have x0 : w5.cell? ⟨w.heap.size, 0, none⟩ = some (.string ⟨#[]⟩) := D5.out.res.cell 0
        have x1 : w5.cell? ⟨w.heap.size, 1, none⟩ = some (.slice none 0 0) := D5.out.res.cell 1
        have f0 : w5.frozen? ⟨w.heap.size, 0, none⟩ = false := D5.out.res.frozen 0
        have f1 : w5.frozen? ⟨w.heap.size, 1, none⟩ = false := D5.out.res.frozen 1
        have z2 : w.heap.size < w5.heap.size := D5.out.res.lt
        have y0 : w5.cell? ⟨go, 0, none⟩ = some (.string nm) := D5.out.ob.cell 0
        have y1 : w5.cell? ⟨go, 1, none⟩ = some (.slice a5 k c5') := D5.out.ob.cell 1
        obtain ⟨bM, hbM⟩ : ∃ b, (mg != ⟨#[65, 79, 66, 49]⟩) = b := ⟨_, rfl⟩
        clear lr lr1 lr2 lr3 lr4 lrk bn ibn hbM hk
        cases bF
        case' true =>
          have HGN : Hid (G = none) := Lib.hid (by rw [HGo.out, if_neg (fun h => by rw [h.1] at hbF2; cases hbF2)])
          go_wp2_with fail
          have HY := (D5.out.res.set_ 0 (.string ⟨#[]⟩)).set_ 1 (.slice none 0 0)
          refine bodyPost_ret (res_ob_tmp Try.results14 _ _ w.heap.size _ _ _ rfl rfl HY) rfl ⟨_, _, rfl, ?_, ?_⟩
          · exact below_grown (below_grown D5.out.low (grown_set _ w.heap.size 0 _) (fun k hk => by cases hk; exact Nat.le_refl _) D5.out.sz) (grown_set _ w.heap.size 1 _) (fun k hk => by cases hk; exact Nat.le_refl _) (by simp; exact D5.out.sz)
          · rw [HGN.out]; exact ⟨rfl, rfl⟩
        case' false =>
          have hmq := magic_eq mg
          have hF0 : F = 0 := Decidable.byContradiction (fun h => by rw [bne_iff_ne.2 h] at hbF2; cases hbF2)
          by_cases hmm : by' mg = magic
          case' neg =>
            rw [decide_eq_false hmm] at hmq
            have HGN : Hid (G = none) := Lib.hid (by rw [HGo.out, if_neg (fun h => hmm h.2.1)])
            clear hmm hF0
            go_wp2_with fail
            have HY := (D5.out.res.set_ 0 (.string ⟨#[]⟩)).set_ 1 (.slice none 0 0)
            refine bodyPost_ret (res_ob_tmp Try.results14 _ _ w.heap.size _ _ _ rfl rfl HY) rfl ⟨_, _, rfl, ?_, ?_⟩
            · exact below_grown (below_grown D5.out.low (grown_set _ w.heap.size 0 _) (fun k hk => by cases hk; exact Nat.le_refl _) D5.out.sz) (grown_set _ w.heap.size 1 _) (fun k hk => by cases hk; exact Nat.le_refl _) (by simp; exact D5.out.sz)
            · rw [HGN.out]; exact ⟨rfl, rfl⟩
          case' pos =>
            rw [decide_eq_true hmm] at hmq
            have hat : ObAt w5 (.agg #[.string nm, .slice a5 k c5']) ⟨by' nm, SS⟩ := ⟨_, by rw [tx_by], by have := C5.out; rw [HkS.out] at this; rw [HkS.out]; exact this.syms⟩
            have HMay := Lib.hid (rmay_any _ ⟨by' nm, SS⟩ HFit.out w5 hat)
            obtain ⟨ok, hok⟩ : ∃ b, b = obOk ⟨by' nm, SS⟩ := ⟨_, rfl⟩
            rw [← hok] at HMay
            have HGK : Hid (G = if ok = true then some ⟨by' nm, SS⟩ else none) := Lib.hid (by
              rw [HGo.out, hok]
              by_cases h : obOk ⟨by' nm, SS⟩ = true
              · rw [if_pos h, if_pos ⟨hF0, hmm, h⟩]
              · rw [if_neg h, if_neg (fun h2 => h h2.2.2)])
            have HAt := Lib.hid hat
            clear hmm hF0 hok hat
            go_wp2_with fail
            refine HMay.out.mono ?_; rintro e w6 ⟨rfl, q6⟩
            have D6 := Lib.hid (D5.out.other (row := none) ⟨q6.os, q6.tape, q6.output, q6.size, fun i hi _ => q6.block i hi⟩ (fun k hk => by cases hk))
            have C6 := Lib.hid (C5.out.below q6)
            clear q6 D5 C5 x0 x1 f0 f1 z2 y0 y1 HMay HAt
            have x0 : w6.cell? ⟨w.heap.size, 0, none⟩ = some (.string ⟨#[]⟩) := D6.out.res.cell 0
            have x1 : w6.cell? ⟨w.heap.size, 1, none⟩ = some (.slice none 0 0) := D6.out.res.cell 1
            have f0 : w6.frozen? ⟨w.heap.size, 0, none⟩ = false := D6.out.res.frozen 0
            have f1 : w6.frozen? ⟨w.heap.size, 1, none⟩ = false := D6.out.res.frozen 1
            have z2 : w.heap.size < w6.heap.size := D6.out.res.lt
            have y0 : w6.cell? ⟨go, 0, none⟩ = some (.string nm) := D6.out.ob.cell 0
            have y1 : w6.cell? ⟨go, 1, none⟩ = some (.slice a5 k c5') := D6.out.ob.cell 1
            cases ok
            case' false =>
              have HGN : Hid (G = none) := Lib.hid (by rw [HGK.out]; rfl)
              go_wp2_with fail
              have HY := (D6.out.res.set_ 0 (.string ⟨#[]⟩)).set_ 1 (.slice none 0 0)
              refine bodyPost_ret (res_ob_tmp Try.results14 _ _ w.heap.size _ _ _ rfl rfl HY) rfl ⟨_, _, rfl, ?_, ?_⟩
              · exact below_grown (below_grown D6.out.low (grown_set _ w.heap.size 0 _) (fun k hk => by cases hk; exact Nat.le_refl _) D6.out.sz) (grown_set _ w.heap.size 1 _) (fun k hk => by cases hk; exact Nat.le_refl _) (by simp; exact D6.out.sz)
              · rw [HGN.out]; exact ⟨rfl, rfl⟩
            case' true =>
              have HGN : Hid (G = some ⟨by' nm, SS⟩) := Lib.hid (by rw [HGK.out]; rfl)
              go_wp2_with fail
              have HY := (D6.out.res.set_ 0 (.string nm)).set_ 1 (.slice a5 k c5')
              refine bodyPost_ret (res_ob_tmp Try.results14 _ _ w.heap.size _ _ _ rfl rfl HY) rfl ⟨_, _, rfl, ?_, ?_⟩
              · exact below_grown (below_grown D6.out.low (grown_set _ w.heap.size 0 _) (fun k hk => by cases hk; exact Nat.le_refl _) D6.out.sz) (grown_set _ w.heap.size 1 _) (fun k hk => by cases hk; exact Nat.le_refl _) (by simp; exact D6.out.sz)
              · rw [HGN.out]
                have c7 := (C6.out.obj D6.out.res (grown_set w6 w.heap.size 0 (.string nm))).obj (D6.out.res.set_ 0 (.string nm)) (grown_set _ w.heap.size 1 (.slice a5 k c5'))
                rw [HkS.out] at c7 ⊢
                exact ⟨rfl, a5, c5', R, N, by rw [tx_by], c7⟩)
  end Go.Proofs.Ytbpdoiikleaidaa
