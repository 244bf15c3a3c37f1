/-
  Heads in memory: how they lie, how they are read. No condition but the sizes.
-/
import Derived.Test.YtldnghmgdmjljaaHa
import Derived.Test.YtldnghmgdmjljaaKh
import Derived.Test.YtldnghmgdmjljaaKm
import Derived.Deep.CutRange
namespace Go.Proofs.Ytldnghmgdmjljaa
open Go.RowKit
set_option linter.unusedSimpArgs false
set_option linter.unusedVariables false
set_option maxRecDepth 100000
theorem own_ty {W : World} {base size n : Nat} {e : TypeId} {v : Value} {xs : List Value} (h : W.ownsRow base e size v n xs) {k : Nat} (hk : k ∈ rowOf v) : ∃ cs, Blk W k e cs := by
  rcases h.2 with ⟨rfl, _⟩ | ⟨g, c, cur, rfl, hb, hh, _⟩
  · simp [rowOf, Value.ownBlock] at hk
  · simp [rowOf, Value.ownBlock] at hk
    subst hk
    exact ⟨cur, hh⟩
theorem row_slice (A : Option Addr) (n c n' c' : Nat) : rowOf (.slice A n c) = rowOf (.slice A n' c') := by cases A <;> rfl
/-- how long a row of the call's own is, and where it starts -/
theorem own_shape {W : World} {base size n m c : Nat} {e : TypeId} {A : Option Addr} {xs : List Value} (h : W.ownsRow base e size (.slice A m c) n xs) : m = n ∧ n ≤ c ∧ c ≤ maxLen ∧ (A = none ∨ ∃ b, A = some ⟨b, 0, none⟩ ∧ base ≤ b ∧ b < W.heap.size) := by
  rcases h.2 with ⟨e, h0⟩ | ⟨b, cap, cur, e, hb, hh, h1, h2, _⟩
  · injection e with e1 e2 e3
    subst e1 e2 e3 h0
    exact ⟨rfl, Nat.le_refl _, by simp [maxLen], .inl rfl⟩
  · injection e with e1 e2 e3
    subst e1 e2 e3
    exact ⟨rfl, h1, h2, .inr ⟨b, rfl, hb, (show Blk W b e cur from hh).lt⟩⟩
theorem own_form {W : World} {base size n : Nat} {e : TypeId} {v : Value} {xs : List Value} (h : W.ownsRow base e size v n xs) : ∃ A c, v = .slice A n c := by
  rcases h.2 with ⟨rfl, h0⟩ | ⟨g, cap, cur, rfl, _⟩
  · exact ⟨none, 0, by rw [h0]⟩
  · exact ⟨_, cap, rfl⟩
theorem own_below {w w' : World} {base size n : Nat} {e : TypeId} {v : Value} {xs : List Value} (h : w.ownsRow base e size v n xs) (hb : Below w.heap.size w w') : w'.ownsRow base e size v n xs := row_of h fun k hk => hb.block k (row_under h k hk)
theorem run_store_cell {P : Program} (w : World) (g i : Nat) (ty : TypeId) (v : Value) (ht : w.there g i 1) (hi : (P.info? ty).map (·.size) = some 1) (h1 : v.oneCell' = true) :
    (storeVar ty ⟨g, i, none⟩ v).run P w = .ok () (w.setCell ⟨g, i, none⟩ v) := by
  have := run_storeCells_cells (P := P) g i [v] 0 w (fun j hj => by simpa using (ht j (by simpa using hj)).1) (fun j hj => by simpa using (ht j (by simpa using hj)).2) (fun u hu => by simp at hu; subst hu; exact h1)
  have hc : v.cells = #[v] := by cases v <;> first | rfl | cases h1
  cases hq : P.info? ty with
  | none => simp [hq] at hi
  | some i0 =>
    have hs : i0.size = 1 := by simpa [hq] using hi
    simp only [Nat.add_zero] at this
    simp [storeVar, sizeOf, typeInfo, hq, hc, hs, this, World.setCells]
section
variable {P : Program} {ops : Array Oper} {rest : List Oper} {o : Oper} {a : Act} {w : World} {Q : Exit → Act → World → Prop}
theorem wp_setq {K : Act → World → Prop} (ty : TypeId) (x y : Operand) (ho : o.op = .store ty x y)
    (g i : Nat) (t : TypeId) (cs : Array Value) (v : Value) (hx : a.eval x = .pointer (some ⟨g, i, none⟩)) (hy : a.eval y = v) (hB : Blk w g t cs) (hs : i < cs.size) (hi : (P.info? ty).map (·.size) = some 1) (h1 : v.oneCell' = true)
    (h : ∀ w', Blk w' g t (cs.setIfInBounds i v) → Only [g] w w' → w'.heap.size = w.heap.size → K (a.put o.dst undef) w') : o.wp P a w K Q := by
  unfold Oper.wp execOp
  simp only [ho, hx, hy, Instr.storeAt, Instr.sureAddr, Sem.run_bind, Sem.run_pure, Result.andThen_ok, run_store_cell w g i ty v (hB.there (by omega)) hi h1]
  exact h _ (hB.set_ i v) ((Only.refl _ _).setCell (.inl (by simp)) _) (by simp [World.setCell])
/-- one cell of a block known whole is stored -/
theorem wpList_setq (hgd : o.guard = none) (ty : TypeId) (x y : Operand) (ho : o.op = .store ty x y)
    (g i : Nat) (t : TypeId) (cs : Array Value) (v : Value) (hx : a.eval x = .pointer (some ⟨g, i, none⟩)) (hy : a.eval y = v) (hB : Blk w g t cs) (hs : i < cs.size) (hi : (P.info? ty).map (·.size) = some 1) (h1 : v.oneCell' = true)
    (h : ∀ w', Blk w' g t (cs.setIfInBounds i v) → Only [g] w w' → w'.heap.size = w.heap.size → wpList P ops Q rest (a.put o.dst undef) w') : wpList P ops Q (o :: rest) a w :=
  wpList_plain hgd fun _ hK => wp_setq ty x y ho g i t cs v hx hy hB hs hi h1 fun w' h1 h2 h3 => hK _ _ (h w' h1 h2 h3)
/-- a block known whole is stored over -/
theorem wpList_storeq (hgd : o.guard = none) (ty : TypeId) (x y : Operand) (ho : o.op = .store ty x y)
    (g : Nat) (cs : Array Value) (vs : List Value) (hx : a.eval x = .pointer (some ⟨g, 0, none⟩)) (hy : a.eval y = .agg vs.toArray) (hB : Blk w g ty cs) (hs : vs.length = cs.size) (hi : (P.info? ty).map (·.size) = some vs.length) (h1 : ∀ v ∈ vs, v.oneCell' = true)
    (h : ∀ w', Blk w' g ty vs.toArray → Only [g] w w' → w'.heap.size = w.heap.size → wpList P ops Q rest (a.put o.dst undef) w') : wpList P ops Q (o :: rest) a w :=
  wpList_store_mid hgd ty x y ho g 0 vs.toArray hx hy (hB.there (by simp [hs])) (by simpa using hi) (all_oneCell_toArray h1)
    (h _ (by simpa using hB.over vs hs) ((Only.refl _ _).grown (by simpa using (setCells_grown g vs 0 w).1) (fun k e => .inl (by injection e with e; simp [e]))) (by simpa using (setCells_grown g vs 0 w).2))
theorem wpList_loadq (hgd : o.guard = none) (ty : TypeId) (x : Operand) (ho : o.op = .load ty x)
    (g : Nat) (cs : List Value) (d : TypeDesc) (hx : a.eval x = .pointer (some ⟨g, 0, none⟩)) (hB : Blk w g ty cs.toArray) (hu : P.underlying ty = some d) (hd : d.isRow = true) (hi : (P.info? ty).map (·.size) = some cs.length)
    (h : wpList P ops Q rest (a.put o.dst (.agg cs.toArray)) w) : wpList P ops Q (o :: rest) a w :=
  wpList_load_mid hgd ty x ho g 0 hx cs d hB.range hu hd hi h
/-- a struct that lies somewhere is loaded -/
theorem run_loadVar_cells {ty : TypeId} {d : TypeDesc} (hu : P.underlying ty = some d) (hd : d.isRow = true) (w : World) (p : Addr) (cs : List Value) (hi : (P.info? ty).map (·.size) = some cs.length) (hc : ∀ j v, cs[j]? = some v → w.cell? (p.add j) = some v) : (loadVar ty p).run P w = .ok (.agg cs.toArray) w := by
  have hl : (loadCells p cs.length).run P w = .ok cs.toArray w := run_loadCells_list (P := P) w p cs hc
  have hagg : (isAgg ty).run P w = .ok true w := by
    unfold isAgg
    rw [Sem.run_bind, run_underlying hu w]
    cases d <;> first | rfl | cases hd
  cases hq : P.info? ty with
  | none => simp [hq] at hi
  | some i =>
    have hs : i.size = cs.length := by simpa [hq] using hi
    simp [loadVar, Sem.run_bind, hagg, sizeOf, typeInfo, hq, hs, hl]
theorem wpList_loadp (hgd : o.guard = none) (ty : TypeId) (x : Operand) (ho : o.op = .load ty x)
    (p : Addr) (cs : List Value) (d : TypeDesc) (hx : a.eval x = .pointer (some p)) (hc : ∀ j v, cs[j]? = some v → w.cell? (p.add j) = some v) (hu : P.underlying ty = some d) (hd : d.isRow = true) (hi : (P.info? ty).map (·.size) = some cs.length)
    (h : wpList P ops Q rest (a.put o.dst (.agg cs.toArray)) w) : wpList P ops Q (o :: rest) a w :=
  wpList_plain hgd fun _ hK => by
    unfold Oper.wp execOp
    simp only [ho, hx, Instr.loadAt, Instr.sureAddr, Sem.run_bind, Sem.run_pure, Result.andThen_ok, run_loadVar_cells hu hd w p cs hi hc]
    exact hK _ _ h
end
theorem Blk.only {F : List Nat} {w w' : World} {g : Nat} {t : TypeId} {cs : Array Value} (h : Blk w g t cs) (ho : Only F w w') (hn : g ∉ F) : Blk w' g t cs := h.of (ho.block g h.lt hn)
/-- the names of a row -/
def strs (l : List (List Nat)) : List Value := l.map fun c => .string (strOf c)
theorem strs_len (l : List (List Nat)) : (strs l).length = l.length := by simp [strs]
def Strs (w : World) (B : Nat) (A : Option Addr) (n : Nat) (l : List (List Nat)) : Prop := Reads w B 1 A n (strs l) ∧ ∀ c ∈ l, ∀ b ∈ c, b < 256
section
variable {w w' : World} {B B' n : Nat} {A : Option Addr} {l : List (List Nat)}
theorem Strs.len (h : Strs w B A n l) : l.length = n := by have := h.1.1; rw [strs_len] at this; omega
theorem Strs.since (h : Strs w B A n l) (hb : Below w.heap.size w w') : Strs w' B A n l := ⟨h.1.since hb, h.2⟩
theorem Strs.more (h : Strs w B A n l) (hB : B ≤ B') : Strs w B' A n l := ⟨h.1.more hB, h.2⟩
theorem Strs.drew (h : Strs w B A n l) : Strs w.drew B A n l := h
theorem Strs.drewN (h : Strs w B A n l) (k : Nat) : Strs (w.drewN k) B A n l := h
theorem Strs.at_ {k : Nat} (h : Strs w B A n l) (hk : k < n) : ∃ ad c, A = some ad ∧ l[k]? = some c ∧ (∀ b ∈ c, b < 256) ∧ w.cell? (ad.add k) = some (.string (strOf c)) := by
  obtain ⟨ad, u, e, hb, hx, hc⟩ := Reads.at_ h.1 hk
  have hl : k < l.length := by have := h.len; omega
  refine ⟨ad, l[k], e, List.getElem?_eq_getElem hl, h.2 _ (List.getElem_mem hl), ?_⟩
  rw [hc, ← hx]
  simp [strs, hl]
end
theorem strs_one (l : List (List Nat)) : ∀ u ∈ strs l, u.oneCell' = true := by
  intro u hu
  obtain ⟨b, _, rfl⟩ := List.mem_map.1 hu
  rfl
theorem str_eq {a b : List Nat} (ha : ∀ x ∈ a, x < 256) (hb : ∀ x ∈ b, x < 256) : ((strOf a).toList == (strOf b).toList) = decide (a = b) := by
  rw [Bool.eq_iff_iff, beq_iff_eq, decide_eq_true_iff, ByteArray.toList_eq, ByteArray.toList_eq]
  exact ⟨fun e => strOf_inj ha hb (Go.WideShapes.bytes_inj e), fun e => by rw [e]⟩
/-- a view of a head or a snapshot, and where its marks lie -/
structure VA where
  size : Int
  on : Bool
  good : Bool
  row : List Nat
  M : Option Addr
  cm : Nat
  par : List Nat
  ps : Int
  ov : Int
def VA.mk' (s : VA) : MkV := ⟨s.on, s.good, s.row⟩
def VA.lk (s : VA) : LkV := ⟨s.par, s.ps, s.ov⟩
def VA.cs (s : VA) : Array Value := #[.int .i64 s.size, .bool s.on, .bool s.good, .slice s.M s.row.length s.cm, .string (strOf s.par), .int .i64 s.ps, .int .i64 s.ov]
structure VA.R (s : VA) (w : World) : Prop where
  row : Bytes w w.heap.size s.M s.row.length s.row
  par : ∀ b ∈ s.par, b < 256
  size : I64 s.size
  ps : I64 s.ps
  ov : I64 s.ov
  l1 : s.row.length ≤ 9223372036854775807
  l2 : s.par.length ≤ 9223372036854775807
  c1 : s.row.length ≤ s.cm
theorem VA.R.since {s : VA} {w w' : World} (h : s.R w) (hb : Below w.heap.size w w') : s.R w' := ⟨(h.row.since hb).more hb.size, h.par, h.size, h.ps, h.ov, h.l1, h.l2, h.c1⟩
structure VA.Sm (s : VA) : Prop where
  row : s.row.length ≤ 10000
  par : s.par.length ≤ 1000000
/-- a snapshot, and where it lies -/
structure SA where
  num : Int
  name : List Nat
  prot : Bool
  vw : VA
  ch : List (List Nat)
  C : Option Addr
  cc : Nat
def SA.v (s : SA) : SnV := ⟨s.num, s.vw.size, s.name, s.prot, s.vw.mk', s.vw.lk, s.ch⟩
/-- as the program's; as the document's -/
def SA.cells (s : SA) : List Value := [.int .i64 s.num, .int .i64 s.vw.size, .string (strOf s.name), .bool s.vw.on, .bool s.vw.good, .bool s.prot, .slice s.vw.M s.vw.row.length s.vw.cm, .string (strOf s.vw.par), .int .i64 s.vw.ps, .int .i64 s.vw.ov, .slice s.C s.ch.length s.cc]
def SA.dcells (s : SA) : List Value := [.int .i64 s.num, .int .i64 s.vw.size, .string (strOf s.name), .bool s.prot, .bool s.vw.on, .bool s.vw.good, .slice s.vw.M s.vw.row.length s.vw.cm, .string (strOf s.vw.par), .int .i64 s.vw.ps, .int .i64 s.vw.ov, .slice s.C s.ch.length s.cc]
theorem SA.cells_len (s : SA) : s.cells.length = 11 := rfl
theorem SA.dcells_len (s : SA) : s.dcells.length = 11 := rfl
theorem SA.cells_one (s : SA) : ∀ u ∈ s.cells, u.oneCell' = true := by
  intro u hu
  simp [SA.cells] at hu
  rcases hu with rfl | rfl | rfl | rfl | rfl | rfl | rfl | rfl | rfl | rfl | rfl <;> rfl
theorem SA.dcells_one (s : SA) : ∀ u ∈ s.dcells, u.oneCell' = true := by
  intro u hu
  simp [SA.dcells] at hu
  rcases hu with rfl | rfl | rfl | rfl | rfl | rfl | rfl | rfl | rfl | rfl | rfl <;> rfl
structure SA.R (s : SA) (w : World) : Prop where
  vw : s.vw.R w
  ch : Strs w w.heap.size s.C s.ch.length s.ch
  name : ∀ b ∈ s.name, b < 256
  num : I64 s.num
  l1 : s.ch.length ≤ 9223372036854775807
  l2 : s.name.length ≤ 9223372036854775807
  c1 : s.ch.length ≤ s.cc
theorem SA.R.since {s : SA} {w w' : World} (h : s.R w) (hb : Below w.heap.size w w') : s.R w' := ⟨h.vw.since hb, (h.ch.since hb).more hb.size, h.name, h.num, h.l1, h.l2, h.c1⟩
structure SA.Sm (s : SA) : Prop where
  vw : s.vw.Sm
  name : s.name.length ≤ 1000000
  ch : s.ch.length ≤ 10000
  cl : ∀ c ∈ s.ch, c.length ≤ 1000000
/-- a head, and where it lies -/
structure HA where
  id : Int
  obj : Int
  seq : Int
  S : Option Addr
  cs' : Nat
  sn : List SA
  vw : VA
  ow : Int
  it : Int
  tg : Int
def HA.v (h : HA) : HdV := ⟨h.id, h.vw.size, h.obj, h.seq, h.sn.map SA.v, h.vw.mk', h.vw.lk, h.ow, h.it, h.tg⟩
def HA.cs (h : HA) : Array Value := #[.int .i64 h.id, .int .i64 h.vw.size, .int .i64 h.obj, .int .i64 h.seq, .slice h.S h.sn.length h.cs', .bool h.vw.on, .bool h.vw.good, .slice h.vw.M h.vw.row.length h.vw.cm, .string (strOf h.vw.par), .int .i64 h.vw.ps, .int .i64 h.vw.ov, .int .i64 h.ow, .int .i64 h.it, .int .i64 h.tg]
structure HA.R (h : HA) (cf : SA → List Value) (w : World) : Prop where
  vw : h.vw.R w
  row : Reads w w.heap.size 11 h.S h.sn.length (h.sn.flatMap cf)
  sn : ∀ s ∈ h.sn, s.R w
  id : I64 h.id
  obj : I64 h.obj
  seq : I64 h.seq
  ow : I64 h.ow
  it : I64 h.it
  tg : I64 h.tg
  l1 : h.sn.length ≤ 9223372036854775807
  c1 : h.sn.length ≤ h.cs'
theorem HA.R.since {h : HA} {cf : SA → List Value} {w w' : World} (hR : h.R cf w) (hb : Below w.heap.size w w') : h.R cf w' := ⟨hR.vw.since hb, (hR.row.since hb).more hb.size, fun s hs => (hR.sn s hs).since hb, hR.id, hR.obj, hR.seq, hR.ow, hR.it, hR.tg, hR.l1, hR.c1⟩
structure HA.Sm (h : HA) : Prop where
  vw : h.vw.Sm
  cn : h.sn.length ≤ 1000
  sn : ∀ s ∈ h.sn, s.Sm
theorem snap_at {w : World} {B : Nat} {A : Option Addr} {l : List SA} {cf : SA → List Value} (hcf : ∀ s, (cf s).length = 11) (h : Reads w B 11 A l.length (l.flatMap cf)) {k : Nat} {s : SA} (hk : l[k]? = some s) : ∃ ad, A = some ad ∧ ad.block < B ∧ ∀ j v, (cf s)[j]? = some v → w.cell? ((ad.add (k * 11)).add j) = some v := by
  have hl := (List.getElem?_eq_some_iff.1 hk).1
  obtain ⟨ad, e, hb, hc⟩ := h.2 (by omega)
  refine ⟨ad, e, hb, fun j v hj => ?_⟩
  rw [add_of_add]
  have hj2 : j < 11 := by have := (List.getElem?_eq_some_iff.1 hj).1; rwa [hcf] at this
  exact hc _ v (by rw [flat_at cf 11 hcf l k j s hk hj2]; exact hj)
end Go.Proofs.Ytldnghmgdmjljaa
