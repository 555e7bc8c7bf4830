/- The landed asm is what it is held to. -/
import Derived.Test.YtlnnhgmkibjgmaaDoorX40
import Derived.Test.YtlnnhgmkibjgmaaDoorX41
import Derived.Test.YtlnnhgmkibjgmaaDoorX42
set_option linter.unusedVariables false
namespace Go.Proofs.YtlnnhgmkibjgmaaDoor
open Go Go.RowKit Oj Al

theorem asmOK : AsmOK where
  make := fun nm bi LN vn l vl w h1 h2 h3 h4 h5 h6 h7 h8 => amake_any nm bi LN vn l vl w h1 h2 h3 h4 h5 h6 h7 h8
  data := fun s vn w h1 h2 h3 _ => adata_any s vn w h1 h2 h3
  r_ := fun op d a b w _ _ _ _ => ar_raw op d a b w
  i_ := fun op d a n w _ _ _ _ => ai_raw op d a n w
  li := fun d n w _ _ => ali_raw d n w
  la := fun d t n w _ h _ => by unfold LnPost lnV; rw [tx_by]; exact ala_raw t d n h w
  ld := fun op d a n w _ _ _ _ => ald_raw op d a n w
  st := fun op b a n w _ _ _ _ => ast_raw op b a n w
  ldat := fun op d t n w _ _ h _ => by unfold LnPost lnV; rw [tx_by]; exact aldat_raw t op d n h w
  stat := fun op b t n w _ _ h _ => by unfold LnPost lnV; rw [tx_by]; exact astat_raw t op b n h w
  br := fun op a b t w _ _ _ h => by unfold LnPost lnV; rw [tx_by]; exact abr_raw t op a b h w
  call := fun t w h => by unfold LnPost lnV; rw [tx_by]; exact acall_raw t h w
  ret := fun w => aret_raw w
  sys := fun n w _ => asys_raw n w
  jmp := fun t w h => by unfold LnPost lnV; rw [tx_by]; exact ajmp_raw t h w
  at_ := fun lab x w h hf => by unfold LnPost lnV; rw [tx_by]; exact aat_raw lab (tx x.label) (tx x.to) (tx x.name) x.op x.d x.a x.b x.im h hf.2.2.2.2.2.2.1 hf.2.2.2.2.2.2.2 w
end Go.Proofs.YtlnnhgmkibjgmaaDoor
