/-
  A map whose keys are strings, as a row of pairs that rises by its keys. No condition; nothing of the program is named.
-/
import Derived.Test.YtldnghmgdmjljaaObj
import Derived.WideKeyElems
import Derived.Laws.IdiomMaps
import Derived.Maps.Keyed
import Derived.Maps.Own
import Derived.StringKeys
namespace Go.Proofs.Ytldnghmgdmjljaa
open Go.RowKit Go.ChangeMaps Go.WideElems Go.MapKept
set_option linter.unusedSimpArgs false
set_option linter.unusedVariables false
abbrev Key := List UInt8
abbrev KV := List (Key × Value)
def heldR (v : Value) : Option (DataW Value × List MemPlace) := some (.held v, [])
def encKV (p : Key × Value) : Lit × DataW Value := (.string p.1, .held p.2)
def keyV (k : Key) : Value := .string ⟨k.toArray⟩
def aget (l : KV) (k : Key) : Option Value := (l.find? fun p => p.1 == k).map (·.2)
def ains (x : Key × Value) : KV → KV
  | [] => [x]
  | y :: r => if bytesBefore x.1 y.1 then x :: y :: r else y :: ains x r
def adel (k : Key) (l : KV) : KV := l.filter fun p => !(p.1 == k)
def aput (k : Key) (v : Value) (l : KV) : KV := ains (k, v) (adel k l)
theorem ains_enc (x : Key × Value) : ∀ l : KV, (ains x l).map encKV = DataW.insert (encKV x) (l.map encKV)
  | [] => rfl
  | y :: r => by
    have ih := ains_enc x r
    simp only [ains, List.map_cons, DataW.insert]
    have e : (encKV x).1.before (encKV y).1 = bytesBefore x.1 y.1 := rfl
    rw [e]
    split
    · rfl
    · rw [List.map_cons, ih]
theorem adel_enc (k : Key) (l : KV) : (adel k l).map encKV = delKey (.string k) (l.map encKV) := by
  unfold adel delKey
  rw [List.filter_map]
  rfl
theorem aput_enc (k : Key) (v : Value) (l : KV) : (aput k v l).map encKV = putKey (.string k) (.held v) (l.map encKV) := by
  unfold aput
  rw [ains_enc, adel_enc]
  rfl
theorem aget_enc (l : KV) (k : Key) (zd : DataW Value) : (DataW.map (l.map encKV)).atKey (.string k) zd = match aget l k with | some v => .held v | none => zd := by
  simp only [DataW.atKey, aget]
  induction l with
  | nil => rfl
  | cons p l ih =>
    simp only [List.map_cons, List.find?_cons]
    have e : (encKV p).1.sameKey (.string k) = (p.1 == k) := rfl
    rw [e]
    cases h : p.1 == k
    · exact ih
    · rfl
/-- block b is a map that holds just these pairs -/
def SMap (P : Program) (kt : TypeId) (w : World) (b : Nat) (l : KV) : Prop := ∃ es clock, w.heap[b]? = some (.map es clock) ∧ Fit P kt heldR es clock ∧ (es.toList.map (rg P kt heldR)).foldr DataW.insert [] = l.map encKV
section
variable {P : Program} {kt t et : TypeId} {w w' : World} {b : Nat} {l : KV}
theorem SMap.of (h : SMap P kt w b l) (e : w'.heap[b]? = w.heap[b]?) : SMap P kt w' b l := by
  obtain ⟨es, c, h1, h2⟩ := h
  exact ⟨es, c, e.trans h1, h2⟩
theorem SMap.lt (h : SMap P kt w b l) : b < w.heap.size := by
  obtain ⟨es, c, h1, _⟩ := h
  exact (Array.getElem?_eq_some_iff.1 h1).1
theorem SMap.new (w : World) : SMap P kt (w.alloc (.map #[] 0)) w.heap.size [] := ⟨#[], 0, heap_alloc_new w _, ⟨by simp, stamped_empty 0, by simp⟩, rfl⟩
theorem SMap.size (h : SMap P kt w b l) : ∃ es clock, w.heap[b]? = some (.map es clock) ∧ es.size = l.length := by
  obtain ⟨es, c, h1, h2, h3⟩ := h
  refine ⟨es, c, h1, ?_⟩
  have := congrArg List.length h3
  rw [length_sorted] at this
  simpa using this
theorem SMap.ne_blk {t : TypeId} {cs : Array Value} {g' : Nat} (h : SMap P kt w b l) (hb : Blk w g' t cs) : b ≠ g' := by
  rintro rfl
  obtain ⟨es, c, h1, _⟩ := h
  unfold Blk at hb
  rw [hb] at h1
  cases h1
theorem SMap.owns (h : SMap P kt w b l) : w.ownsMap P kt heldR b l.length (.map (l.map encKV)) := by
  obtain ⟨es, c, h1, h2, h3⟩ := h
  refine ⟨es, c, h1, h2, ?_, by rw [h3]⟩
  have := congrArg List.length h3
  rw [length_sorted] at this
  simp at this
  omega
theorem key_of (hk : P.underlying kt = some .string) (k : Key) (hs : k.length ≤ maxLen) : keyOf P kt (keyV k) = some (.string k) := by
  simp [keyOf, mapKey, hk, keyV, hs]
  exact hs
theorem run_lookup_smap (hk : P.underlying kt = some .string) (ht : P.underlying t = some (.map kt et)) {z : Value} (hz : (zeroValue et).run P w = .ok z w) (h : SMap P kt w b l) (k : Key) (hs : k.length ≤ maxLen) :
    (Instr.lookup t (.map (some b)) (keyV k) false).run P w = .ok ((aget l k).getD z) w := by
  obtain ⟨es, c, h1, h2, h3⟩ := h
  have key := key_of hk k hs
  rcases fit_lookup (WideMaps.string_law hk) ht hz h1 h2 key with ⟨hr, ha⟩ | ⟨v, y, hr, hy, ha, _⟩
  · have := ha (.lit (.bool true))
    rw [h3, aget_enc] at this
    cases hg : aget l k with
    | none => simpa using hr
    | some v => rw [hg] at this; cases this
  · have := ha (.lit (.bool true))
    rw [h3, aget_enc] at this
    cases hg : aget l k with
    | none =>
      rw [hg] at this
      simp [heldR] at hy
      rw [← hy] at this
      cases this
    | some u =>
      rw [hg] at this
      simp [heldR] at hy
      rw [← hy] at this
      injection this with this
      subst this
      simpa using hr
theorem run_lookup_ok_smap (hk : P.underlying kt = some .string) (ht : P.underlying t = some (.map kt et)) {z : Value} (hz : (zeroValue et).run P w = .ok z w) (h : SMap P kt w b l) (k : Key) (hs : k.length ≤ maxLen) :
    (Instr.lookup t (.map (some b)) (keyV k) true).run P w = .ok (.tuple #[(aget l k).getD z, .bool (aget l k).isSome]) w := by
  obtain ⟨es, c, h1, h2, h3⟩ := h
  have key := key_of hk k hs
  rcases fit_lookup_ok (WideMaps.string_law hk) ht hz h1 h2 key with ⟨hr, ha⟩ | ⟨v, y, hr, hy, ha, _⟩
  · have := ha (.lit (.bool true))
    rw [h3, aget_enc] at this
    cases hg : aget l k with
    | none => simpa using hr
    | some v => rw [hg] at this; cases this
  · have := ha (.lit (.bool true))
    rw [h3, aget_enc] at this
    cases hg : aget l k with
    | none =>
      rw [hg] at this
      simp [heldR] at hy
      rw [← hy] at this
      cases this
    | some u =>
      rw [hg] at this
      simp [heldR] at hy
      rw [← hy] at this
      injection this with this
      subst this
      simpa using hr
theorem grown_setBlock {w : World} {b : Nat} {es : Array MapEntry} {c : Nat} {o' : Obj} (h : w.heap[b]? = some (.map es c)) : w.grownBy (setBlock w b o') (some b) ∧ (setBlock w b o').heap.size = w.heap.size :=
  ⟨⟨rfl, rfl, rfl, by simp [setBlock], fun i _ hi => heap_setBlock_other h _ (fun e => hi (by rw [e]))⟩, by simp [setBlock]⟩
theorem run_update_smap (hk : P.underlying kt = some .string) (ht : P.underlying t = some (.map kt et)) (h : SMap P kt w b l) (k : Key) (hs : k.length ≤ maxLen) (hroom : l.length < maxLen) (v : Value) :
    ∃ w', (Instr.mapUpdate t (.map (some b)) (keyV k) v).run P w = .ok () w' ∧ SMap P kt w' b (aput k v l) ∧ w.grownBy w' (some b) ∧ w'.heap.size = w.heap.size := by
  obtain ⟨es0, c0, h10, hsz⟩ := h.size
  obtain ⟨es, c, h1, h2, h3⟩ := h
  rw [h1] at h10
  injection h10 with h10
  injection h10 with h10 _
  subst h10
  obtain ⟨es', c', hr, hf, hl, _⟩ := fit_update (R' := heldR) (WideMaps.string_law hk) ht h1 h2 (by omega) (fun _ _ _ h => h) (key_of hk k hs) (val := v) (yv := (.held v, [])) rfl
  obtain ⟨hg, hz⟩ := grown_setBlock (o' := .map es' c') h1
  refine ⟨_, hr, ⟨es', c', heap_setBlock_same h1 _, hf, ?_⟩, hg, hz⟩
  rw [hl, h3, aput_enc]
theorem run_delete_smap {ty : TypeId} (hk : P.underlying kt = some .string) (ht : P.underlying t = some (.map kt et)) (h : SMap P kt w b l) (k : Key) (hs : k.length ≤ maxLen) :
    ∃ w', (Builtin.delete_ #[t, kt] ty #[.map (some b), keyV k]).run P w = .ok (.tuple #[]) w' ∧ SMap P kt w' b (adel k l) ∧ w.grownBy w' (some b) ∧ w'.heap.size = w.heap.size := by
  obtain ⟨es, c, h1, h2, h3⟩ := h
  obtain ⟨es', hr, hf, hl, _⟩ := fit_delete (R' := heldR) (ty := ty) (WideMaps.string_law hk) ht h1 h2 (fun _ _ _ h => h) (key_of hk k hs)
  obtain ⟨hg, hz⟩ := grown_setBlock (o' := .map es' c) h1
  refine ⟨_, hr, ⟨es', c, heap_setBlock_same h1 _, hf, ?_⟩, hg, hz⟩
  rw [hl, h3, adel_enc]
end
end Go.Proofs.Ytldnghmgdmjljaa
