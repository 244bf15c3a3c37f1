import Derived.Outline
import Derived.Handy
namespace Go
open Lean Elab Tactic Meta
/-- the state without the frames -/
elab "go_st" : tactic => withMainContext do
  let mut m : MessageData := m!"STATE"
  for d in (← getLCtx) do
    if d.isImplementationDetail || d.userName.hasMacroScopes then continue
    m := m ++ m!"\n· {d.userName} : {← instantiateMVars d.type}"
  let t := (← instantiateMVars (← getMainTarget)).consumeMData
  let f := t.getAppFn
  if t.isAppOf ``Code.wp then
    m := m ++ m!"\n⊢ wp of {(t.getAppArgs[2]!).getAppFn} \n ACT {(t.getAppArgs[3]!)} \n WORLD {t.getAppArgs[4]!}"
  else if t.getAppNumArgs > 3 then
    m := m ++ m!"\n⊢ {f} ..."
    for a in t.getAppArgs[t.getAppNumArgs - 4:] do
      m := m ++ m!"\n  ARG {a}"
  else m := m ++ m!"\n⊢ {t}"
  logInfo m
end Go
