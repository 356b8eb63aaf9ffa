/- One step of a walk whose outcome the caller names. -/
import Derived.WalkKit
import Derived.Tactics
namespace Go.Proofs.Ytijoancnlpkcoab

theorem step_to {P : Program} {ops : Array Oper} {rest : List Oper} {o : Oper} {a : Act} {w w' : World} {Q : Exit → Act → World → Prop} {v : Value} (hg : o.guard = none)
    (hrun : (execOp a.eval o).run P w = .ok (.value v) w') (h : wpList P ops Q rest (a.put o.dst v) w') : wpList P ops Q (o :: rest) a w :=
  wpList_plain hg fun K hK => by
    unfold Oper.wp
    rw [hrun, Oper.upon_value]
    exact hK _ _ h
end Go.Proofs.Ytijoancnlpkcoab
