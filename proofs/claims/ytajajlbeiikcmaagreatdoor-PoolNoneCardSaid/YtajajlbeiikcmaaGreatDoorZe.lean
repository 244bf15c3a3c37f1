/-
 Spaces, the plain part: what is chosen of holes for so many blocks; a row with many extents turned. No condition; nothing of the program is named.
-/
import Derived.Test.YtajajlbeiikcmaaGreatDoorZd
import Derived.Laws.CopyOwn
import Derived.Laws.Bits64b
import Derived.StillTailTactics
import Derived.Lib.SliceRun
import Derived.WideKeyElems
import Derived.Laws.IdiomMaps
import Derived.Maps.Keyed
import Derived.Maps.Own
import Derived.StringKeys
namespace Go.Proofs.YtajajlbeiikcmaaGreatDoor
set_option linter.unusedSimpArgs false
set_option linter.unusedVariables false
set_option maxRecDepth 100000
section
def Longer (e q : Nat × Nat) : Prop := q.2 < e.2 ∨ (e.2 = q.2 /\ e.1 < q.1)
def Shorter (e q : Nat × Nat) : Prop := e.2 < q.2 ∨ (e.2 = q.2 /\ e.1 < q.1)
def Top (L : List (Nat × Nat)) (e : Nat × Nat) : Prop := e ∈ L /\ ∀ q, q ∈ L -> q = e ∨ Longer e q
def Fit (L : List (Nat × Nat)) (n : Nat) (e : Nat × Nat) : Prop := e ∈ L /\ n <= e.2 /\ ∀ q, q ∈ L -> n <= q.2 -> q = e ∨ Shorter e q
inductive Chosen : List (Nat × Nat) -> Nat -> List (Nat × Nat) -> Prop
 | none (L : List (Nat × Nat)) : Chosen L 0 []
 | fit {L : List (Nat × Nat)} {n : Nat} {e : Nat × Nat} : 0 < n -> Fit L n e -> Chosen L n [(e.1, n)]
 | long {L : List (Nat × Nat)} {n : Nat} {e : Nat × Nat} {r : List (Nat × Nat)} : Top L e -> e.2 < n -> Chosen (L.erase e) (n - e.2) r -> Chosen L n (e :: r)
theorem Top.one {L : List (Nat × Nat)} {e e' : Nat × Nat} (h : Top L e) (h' : Top L e') : e = e' := by
 rcases h.2 _ h'.1 with h1 | h1
 ·exact h1.symm
 ·rcases h'.2 _ h.1 with h2 | h2
  ·exact h2
  ·simp only [Longer] at h1 h2; omega
theorem Fit.one {L : List (Nat × Nat)} {n : Nat} {e e' : Nat × Nat} (h : Fit L n e) (h' : Fit L n e') : e = e' := by
 rcases h.2.2 _ h'.1 h'.2.1 with h1 | h1
 ·exact h1.symm
 ·rcases h'.2.2 _ h.1 h.2.1 with h2 | h2
  ·exact h2
  ·simp only [Shorter] at h1 h2; omega
theorem Top.no_fit {L : List (Nat × Nat)} {n : Nat} {e q : Nat × Nat} (h : Top L e) (hn : e.2 < n) (hq : Fit L n q) : False := by
 rcases h.2 _ hq.1 with h1 | h1
 ·subst h1; have := hq.2.1; omega
 ·have := hq.2.1; simp only [Longer] at h1; omega
theorem Chosen.zero {L r : List (Nat × Nat)} (h : Chosen L 0 r) : r = [] := by
 cases h with
 | none => rfl
 | fit h _ => omega
 | long _ h _ => omega
theorem Chosen.one {L a b : List (Nat × Nat)} {n : Nat} (h : Chosen L n a) (h' : Chosen L n b) : a = b := by
 induction h generalizing b with
 | none L => exact h'.zero.symm
 | fit h0 hf =>
  cases h' with
  | none => omega
  | fit _ hf' => rw [hf.one hf']
  | long ht hn _ => exact (ht.no_fit hn hf).elim
 | long ht hn _ ih =>
  cases h' with
  | none => omega
  | fit _ hf' => exact (ht.no_fit hn hf').elim
  | long ht' hn' hr =>
   obtain rfl := ht.one ht'
   rw [ih hr]
theorem Top.perm {L L' : List (Nat × Nat)} {e : Nat × Nat} (hp : L.Perm L') (h : Top L e) : Top L' e := ⟨hp.mem_iff.1 h.1, fun q hq => h.2 q (hp.mem_iff.2 hq)⟩
theorem Fit.perm {L L' : List (Nat × Nat)} {n : Nat} {e : Nat × Nat} (hp : L.Perm L') (h : Fit L n e) : Fit L' n e := ⟨hp.mem_iff.1 h.1, h.2.1, fun q hq => h.2.2 q (hp.mem_iff.2 hq)⟩
theorem Chosen.perm {L L' a : List (Nat × Nat)} {n : Nat} (h : Chosen L n a) (hp : L.Perm L') : Chosen L' n a := by
 induction h generalizing L' with
 | none L => exact .none _
 | fit h0 hf => exact .fit h0 (hf.perm hp)
 | long ht hn _ ih => exact .long (ht.perm hp) hn (ih (hp.erase _))
def setA (l : List Bool) (es : List (Nat × Nat)) (b : Bool) : List Bool := es.foldl (fun l e => setR l e.1 e.2 b) l
def OkA : List Bool -> List (Nat × Nat) -> Bool -> Prop
 | _, [], _ => True
 | l, e :: es, b => AllR l e.1 e.2 (!b) /\ OkA (setR l e.1 e.2 b) es b
theorem x1L (l : List Bool) (e : Nat × Nat) (es : List (Nat × Nat)) (b : Bool) : setA l (e :: es) b = setA (setR l e.1 e.2 b) es b := rfl
theorem x8P (l : List Bool) (es fs : List (Nat × Nat)) (b : Bool) : setA l (es ++ fs) b = setA (setA l es b) fs b := by simp [setA]
theorem OkA.app {es fs : List (Nat × Nat)} {b : Bool} : ∀ {l : List Bool}, OkA l (es ++ fs) b ↔ OkA l es b /\ OkA (setA l es b) fs b := by
 induction es with
 | nil => intro l; simp [OkA, setA]
 | cons e es ih => intro l; simp only [List.cons_append, OkA, x1L, ih, and_assoc]
theorem OkA.len {es : List (Nat × Nat)} {b : Bool} : ∀ {l : List Bool}, OkA l es b -> (setA l es b).length = l.length := by
 induction es with
 | nil => intro l _; rfl
 | cons e es ih => intro l h; rw [x1L, ih h.2, x0T h.1.1]
def Cov (es : List (Nat × Nat)) (j : Nat) : Prop := ∃ e ∈ es, e.1 <= j /\ j < e.1 + e.2
theorem Cov.cons {e : Nat × Nat} {es : List (Nat × Nat)} {j : Nat} : Cov (e :: es) j ↔ (e.1 <= j /\ j < e.1 + e.2) ∨ Cov es j := by
  simp [Cov]
theorem OkA.at_ {es : List (Nat × Nat)} {b : Bool} : ∀ {l : List Bool}, OkA l es b -> ∀ j, (Cov es j -> (setA l es b)[j]? = some b /\ l[j]? = some (!b)) /\ (¬ Cov es j -> (setA l es b)[j]? = l[j]?) := by
 induction es with
 | nil => intro l _ j; exact ⟨fun h => by simp [Cov] at h, fun _ => rfl⟩
 | cons e es ih =>
  intro l h j
  have h2 := ih h.2 j
  rw [x13 h.1.1] at h2
  rw [x1L, Cov.cons]
  by_cases hc : Cov es j
  ·have h3 := h2.1 hc
   by_cases he : e.1 <= j /\ j < e.1 + e.2
   ·rw [if_pos he] at h3
    cases b <;> simp at h3
   ·rw [if_neg he] at h3
    exact ⟨fun _ => h3, fun hn => absurd (.inr hc) hn⟩
  ·have h3 := h2.2 hc
   rw [h3]
   by_cases he : e.1 <= j /\ j < e.1 + e.2
   ·rw [if_pos he]
    exact ⟨fun _ => ⟨rfl, h.1.2 j he.1 he.2⟩, fun hn => absurd (.inl he) hn⟩
   ·rw [if_neg he]
    exact ⟨fun hh => (hh.elim (fun h => absurd h he) (fun h => absurd h hc)), fun _ => rfl⟩
theorem OkA.cnt {es : List (Nat × Nat)} {b : Bool} : ∀ {l : List Bool}, OkA l es b -> (cnt (setA l es b) : Int) = cnt l + (if b then (lens es : Int) else -(lens es : Int)) := by
 induction es with
 | nil => intro l _; simp [setA, lens]
 | cons e es ih =>
  intro l h
  have h1 := xDQ h.1
  have h2 := ih h.2
  rw [x1L, h2, h1]
  cases b <;> simp [lens] <;> omega
theorem OkA.back {es : List (Nat × Nat)} {b : Bool} {l : List Bool} (h : OkA l es b) : OkA (setA l es b) es (!b) /\ setA (setA l es b) es (!b) = l := by
 induction es generalizing l with
 | nil => exact ⟨trivial, rfl⟩
 | cons e es ih =>
  have hall := h.at_
  obtain ⟨i1, i2⟩ := ih h.2
  have hlen := h.2.len
  rw [x0T h.1.1] at hlen
  have hA : AllR (setA l (e :: es) b) e.1 e.2 (!!b) := by
   refine ⟨by rw [h.len]; exact h.1.1, fun j hj hk => ?_⟩
   rw [((hall j).1 (Cov.cons.2 (.inl ⟨hj, hk⟩))).1, Bool.not_not]
  -- turning e back first is as turning it back last
  have hcom : ∀ j, Cov es j -> ¬ (e.1 <= j /\ j < e.1 + e.2) := by
   intro j hc he
   have := ((h.2.at_ j).1 hc).2
   rw [x13 h.1.1, if_pos he] at this
   cases b <;> simp at this
  have key : ∀ (fs : List (Nat × Nat)) (m : List Bool), (∀ f ∈ fs, ∀ j, f.1 <= j -> j < f.1 + f.2 -> ¬ (e.1 <= j /\ j < e.1 + e.2)) -> e.1 + e.2 <= m.length -> OkA m fs (!b) -> OkA (setR m e.1 e.2 (!b)) fs (!b) /\ setA (setR m e.1 e.2 (!b)) fs (!b) = setR (setA m fs (!b)) e.1 e.2 (!b) := by
   intro fs
   induction fs with
   | nil => intro m _ _ _; exact ⟨trivial, rfl⟩
   | cons f fs ihf =>
    intro m hd hm ho
    have hf := hd f (List.mem_cons_self ..)
    have hc : setR (setR m e.1 e.2 (!b)) f.1 f.2 (!b) = setR (setR m f.1 f.2 (!b)) e.1 e.2 (!b) := by
     apply List.ext_getElem?
     intro j
     rw [x13 (by rw [x0T hm]; exact ho.1.1), x13 hm, x13 (by rw [x0T ho.1.1]; exact hm), x13 ho.1.1]
     by_cases h1 : f.1 <= j /\ j < f.1 + f.2 <;> by_cases h2 : e.1 <= j /\ j < e.1 + e.2 <;> simp [h1, h2]
    obtain ⟨k1, k2⟩ := ihf (setR m f.1 f.2 (!b)) (fun g hg => hd g (List.mem_cons_of_mem _ hg)) (by rw [x0T ho.1.1]; exact hm) ho.2
    refine ⟨⟨⟨by rw [x0T hm]; exact ho.1.1, fun j hj hk => ?_⟩, by rw [hc]; exact k1⟩, by rw [x1L, x1L, hc]; exact k2⟩
    rw [x13 hm, if_neg (hf j hj hk)]
    exact ho.1.2 j hj hk
  obtain ⟨k1, k2⟩ := key es (setA (setR l e.1 e.2 b) es b) (fun f hf j hj hk => hcom j ⟨f, hf, hj, hk⟩) (by rw [hlen]; exact h.1.1) i1
  refine ⟨⟨hA, k1⟩, ?_⟩
  rw [x1L l, x1L _ e, k2, i2, xJA h.1.1, <- h.1.same]
def Sound (l : List Bool) (L : List (Nat × Nat)) : Prop := L.Nodup /\ (∀ e ∈ L, AllR l e.1 e.2 true) /\ ∀ p ∈ L, ∀ q ∈ L, p ≠ q -> p.1 + p.2 <= q.1 ∨ q.1 + q.2 <= p.1
theorem x4K (l : List Bool) : Sound l (hol 0 l) := by
  have hr := xJJ l 0
  refine ⟨hr.imp (fun {p q} h e => by subst e; omega), fun e he => ?_, fun p hp q hq hne => ?_⟩
  · obtain ⟨x, y⟩ := e
    obtain ⟨_, _, h3, h4⟩ := x7S l 0 x y he
    exact ⟨by omega, fun j hj hk => h4 j hj hk⟩
  · have : ∀ (L : List (Nat × Nat)), L.Pairwise (fun p q => p.1 + p.2 < q.1) -> p ∈ L -> q ∈ L -> p.1 + p.2 <= q.1 ∨ q.1 + q.2 <= p.1 := by
      intro L hL
      induction hL with
      | nil => intro h; simp at h
      | cons h _ ih =>
        intro h1 h2
        rcases List.mem_cons.1 h1 with e1 | h1 <;> rcases List.mem_cons.1 h2 with e2 | h2
        · exact absurd (e1.trans e2.symm) hne
        · have := h _ h2; rw [<- e1] at this; omega
        · have := h _ h1; rw [<- e2] at this; omega
        · exact ih h1 h2
    exact this _ hr hp hq
theorem Chosen.ok {L out : List (Nat × Nat)} {n : Nat} (h : Chosen L n out) : ∀ {l : List Bool}, Sound l L -> OkA l out false /\ lens out = n := by
 induction h with
 | none L => intro l _; exact ⟨trivial, rfl⟩
 | @fit L n e h0 hf =>
  intro l hs
  have := hs.2.1 _ hf.1
  have hn := hf.2.1
  exact ⟨⟨⟨by have := this.1; simp; omega, fun j hj hk => this.2 j hj (by simp at hk; omega)⟩, trivial⟩, by simp [lens]⟩
 | @long L n e r ht hn _ ih =>
  intro l hs
  have he := hs.2.1 _ ht.1
  have hs' : Sound (setR l e.1 e.2 false) (L.erase e) := by
   refine ⟨hs.1.erase _, fun q hq => ?_, fun p hp q hq => hs.2.2 p (List.mem_of_mem_erase hp) q (List.mem_of_mem_erase hq)⟩
   have hq1 := List.mem_of_mem_erase hq
   have hne : e ≠ q := fun h => by subst h; exact (List.Nodup.not_mem_erase hs.1) hq
   have hd := hs.2.2 _ ht.1 _ hq1 hne
   refine ⟨by rw [x0T he.1]; exact (hs.2.1 _ hq1).1, fun j hj hk => ?_⟩
   rw [x13 he.1, if_neg (by omega)]
   exact (hs.2.1 _ hq1).2 j hj hk
  obtain ⟨h1, h2⟩ := ih hs'
  exact ⟨⟨he, h1⟩, by simp [lens] at h2 ⊢; omega⟩
theorem Chosen.few {L out : List (Nat × Nat)} {n : Nat} (h : Chosen L n out) : out.length <= L.length /\ ((∃ e ∈ L, n <= e.2) -> out.length <= 1) /\ (0 < n -> 0 < out.length) := by
 induction h with
 | none L => simp
 | fit h0 hf =>
  have := List.length_pos_of_mem hf.1
  simp; omega
 | @long L n e r ht hn _ ih =>
  have := List.length_erase_of_mem ht.1
  have := List.length_pos_of_mem ht.1
  refine ⟨by simp; omega, fun ⟨q, hq, hle⟩ => ?_, fun _ => by simp⟩
  rcases ht.2 q hq with rfl | h1
  ·omega
  ·simp only [Longer] at h1; omega
end
section
open Go.RowKit Go.BigFrame
def ext1 (e : Int × Int) : List Value := [.int .i64 e.1, .int .i64 e.2]
def extS (l : List (Int × Int)) : List Value := l.flatMap ext1
def natE (l : List (Nat × Nat)) : List (Int × Int) := l.map fun e => ((e.1 : Int), (e.2 : Int))
theorem xCE (e : Int × Int) : (ext1 e).length = 2 := rfl
theorem x63 (l : List (Int × Int)) : (extS l).length = l.length * 2 := by
 induction l with
 | nil => rfl
 | cons e l ih => simp [extS, ext1] at ih ⊢; omega
theorem xFZ {l : List (Int × Int)} {k : Nat} {e : Int × Int} (h : l[k]? = some e) : (extS l)[k * 2]? = some (.int .i64 e.1) /\ (extS l)[k * 2 + 1]? = some (.int .i64 e.2) :=
  ⟨by have := x2I ext1 2 xCE l k 0 e h (by omega); simpa [extS, ext1] using this, by have := x2I ext1 2 xCE l k 1 e h (by omega); simpa [extS, ext1] using this⟩
theorem x3Y (l : List (Int × Int)) : ∀ u ∈ extS l, u.oneCell' = true := by
 intro u hu
 obtain ⟨e, _, he⟩ := List.mem_flatMap.1 hu
 simp [ext1] at he
 rcases he with rfl | rfl <;> rfl
def ExtR (w : World) (B : Nat) (A : Option Addr) (l : List (Int × Int)) : Prop := Reads w B 2 A l.length (extS l)
theorem ExtR.get {w : World} {B : Nat} {A : Option Addr} {l : List (Int × Int)} (h : ExtR w B A l) {k : Nat} (hk : k < l.length) : ∃ ad e, A = some ad /\ ad.block < B /\ l[k]? = some e /\ w.cell? (ad.add (k * 2)) = some (.int .i64 e.1) /\ w.cell? ((ad.add (k * 2)).add 1) = some (.int .i64 e.2) := by
 obtain ⟨ad, e, hb, hc⟩ := h.2 (by omega)
 have he := List.getElem?_eq_getElem hk
 obtain ⟨h1, h2⟩ := xFZ he
 exact ⟨ad, _, e, hb, he, hc _ _ h1, by rw [x2H]; exact hc _ _ h2⟩
theorem ExtR.only {w w' : World} {B : Nat} {F : List Nat} {A : Option Addr} {l : List (Int × Int)} (h : ExtR w B A l) (ho : Only F w w') (hB : B <= w.heap.size) (ha : ∀ ad, A = some ad -> ad.block ∉ F) : ExtR w' B A l :=
 ⟨h.1, fun hn => by
  obtain ⟨ad, e, hb, hc⟩ := h.2 hn
  exact ⟨ad, e, hb, fun j u hu => (ho.cell (by rw [x0L]; omega) (by rw [x0L]; exact ha ad e)).trans (hc j u hu)⟩⟩
theorem x4J (w : World) (p : Addr) (e : Int × Int) (h0 : w.cell? p = some (.int .i64 e.1)) (h1 : w.cell? (p.add 1) = some (.int .i64 e.2)) : (loadVar 198 p).run Tryz.prog w = .ok (.agg #[.int .i64 e.1, .int .i64 e.2]) w := by
 have hc : ∀ j v, (ext1 e)[j]? = some v -> w.cell? (p.add j) = some v := fun j v hj => by
  match j, hj with
  | 0, hj => simp [ext1] at hj; subst hj; simpa [Addr.add] using h0
  | 1, hj => simp [ext1] at hj; subst hj; exact h1
 have hl : (loadCells p 2).run Tryz.prog w = .ok (ext1 e).toArray w := run_loadCells_list (P := Tryz.prog) w p (ext1 e) hc
 have hagg : (isAgg 198).run Tryz.prog w = .ok true w := by
  unfold isAgg
  rw [Sem.run_bind, run_underlying Tryz.underlying198 w]
  rfl
 have hi : (Tryz.prog.info? 198).map (·.size) = some 2 := by kernel_rfl
 cases hq : Tryz.prog.info? 198 with
 | none => simp [hq] at hi
 | some i =>
  have hs : i.size = 2 := by simpa [hq] using hi
  simp [loadVar, Sem.run_bind, hagg, sizeOf, typeInfo, hq, hs, hl]
  rfl
theorem x26 {ops : Array Oper} {rest : List Oper} {op : Oper} {a : Act} {w : World} {Q : Exit -> Act -> World -> Prop} (hgd : op.guard = none) (x : Operand) (ho : op.op = .load 198 x)
  (p : Addr) (hx : a.eval x = .pointer (some p)) (e : Int × Int) (h0 : w.cell? p = some (.int .i64 e.1)) (h1 : w.cell? (p.add 1) = some (.int .i64 e.2))
  (h : wpList Tryz.prog ops Q rest (a.put op.dst (.agg #[.int .i64 e.1, .int .i64 e.2])) w) : wpList Tryz.prog ops Q (op :: rest) a w :=
 wpList_plain hgd fun _ hK => by
  unfold Oper.wp execOp
  simp only [ho, hx, Instr.loadAt, Instr.sureAddr, Sem.run_bind, Sem.run_pure, Result.andThen_ok, x4J w p e h0 h1]
  exact hK _ _ h
def FRow (w : World) (r : Nat) (A : Option Addr) (fl : List Bool) : Prop := fl = [] ∨ (A = some ⟨r, 0, none⟩ /\ ∃ cs : Array Value, Blk w r 4 cs /\ ∀ (j : Nat) (v : Bool), fl[j]? = some v -> cs[j]? = some (.bool v))
structure SAt (w : World) (g r : Nat) (A : Option Addr) (c : Nat) (fl : List Bool) (left : Int) : Prop where
 blk : Blk w g 190 #[.slice A fl.length c, .int .i64 left]
 cap : fl.length <= c
 lim : fl.length <= 65536
 row : FRow w r A fl
section
variable {w w' : World} {g r c : Nat} {A : Option Addr} {fl : List Bool} {left : Int}
theorem FRow.of (h : FRow w r A fl) (hk : ∀ t cs, Blk w r t cs -> w'.heap[r]? = w.heap[r]?) : FRow w' r A fl := by
 rcases h with h | ⟨h, cs, hb, hc⟩
 ·exact .inl h
 ·exact .inr ⟨h, cs, hb.of (hk _ _ hb), hc⟩
theorem FRow.reads (h : FRow w r A fl) : Reads w (r + 1) 1 A fl.length (flagsS fl) := by
 rcases h with rfl | ⟨rfl, cs, hb, hc⟩
 ·exact ⟨rfl, fun h => by simp at h⟩
 ·refine ⟨by simp [flagsS], fun _ => ⟨_, rfl, Nat.lt_succ_self _, fun j u hu => ?_⟩⟩
  rw [x15, hb.cell]
  simp only [flagsS, List.getElem?_map, Option.map_eq_some_iff] at hu
  obtain ⟨v, hv, rfl⟩ := hu
  exact hc j v hv
theorem FRow.set (h : FRow w r A fl) {j : Nat} (hj : j < fl.length) (b : Bool) : FRow (w.setCell ⟨r, j, none⟩ (.bool b)) r A (fl.set j b) := by
 rcases h with rfl | ⟨h, cs, hb, hc⟩
 ·simp at hj
 ·refine .inr ⟨h, _, hb.set_ j _, fun k v hv => ?_⟩
  rw [List.getElem?_set] at hv
  have hjc : j < cs.size := by
   have := hc j _ (List.getElem?_eq_getElem hj)
   exact (Array.getElem?_eq_some_iff.1 this).1
  rw [Array.getElem?_setIfInBounds]
  by_cases hk : j = k
  ·subst hk
   rw [if_pos rfl, if_pos hj] at hv
   injection hv with hv
   rw [if_pos rfl, if_pos hjc, hv]
  ·rw [if_neg hk] at hv
   rw [if_neg hk]
   exact hc k v hv
theorem FRow.cell (h : FRow w r A fl) {j : Nat} (hj : j < fl.length) : A = some ⟨r, 0, none⟩ /\ (∃ v, w.cell? ⟨r, j, none⟩ = some (.bool v)) /\ w.frozen? ⟨r, j, none⟩ = false /\ r < w.heap.size /\ ∃ cs : Array Value, Blk w r 4 cs := by
 rcases h with rfl | ⟨h, cs, hb, hc⟩
 ·simp at hj
 ·exact ⟨h, ⟨_, by rw [hb.cell]; exact hc j _ (List.getElem?_eq_getElem hj)⟩, hb.frozen j, hb.lt, cs, hb⟩
theorem SAt.of (h : SAt w g r A c fl left) (hg : w'.heap[g]? = w.heap[g]?) (hr : ∀ t cs, Blk w r t cs -> w'.heap[r]? = w.heap[r]?) : SAt w' g r A c fl left := ⟨h.blk.of hg, h.cap, h.lim, h.row.of hr⟩
end
set_option maxHeartbeats 1000000 in
theorem x8I {w : World} {g r c B : Nat} {A : Option Addr} {fl : List Bool} (es : List (Nat × Nat)) (b : Bool) (hok : OkA fl es b) (h : SAt w g r A c fl (cnt fl)) (hgr : g ≠ r) (E : Option Addr) (c' : Nat) (hR : ExtR w B E (natE es)) (hB : B <= w.heap.size)
  (hfar : ∀ ad, E = some ad -> ad.block ≠ g /\ ad.block ≠ r) (hle : es.length <= 65536) :
  Calls Tryz.prog 215 #[.pointer (some ⟨g, 0, none⟩), .slice E es.length c', .bool b] w fun e w' => e = .returned (.tuple #[]) /\ Only [g, r] w w' /\ SAt w' g r A c (setA fl es b) (cnt (setA fl es b)) := by
 have H0 := kH h
 have HR := kH hR
 have HF := kH hfar
 have HO := kH hok
 have hn : (natE es).length = es.length := by simp [natE]
 have HN := kH hn
 clear h hR hfar hok hn
 go_enter Tryz.func215, Tryz.ntmps215
 go_wp2
 go_loopw [11] (fun i wr => ∃ k : Nat, k <= es.length /\ i = .int .i64 k /\ Only [g, r] w wr /\ SAt wr g r A c (setA fl (es.take k) b) (cnt (setA fl (es.take k) b))) (fun i _ => es.length - (intS i).toNat)
 case atStart => exact ⟨0, by omega, rfl, Only.refl _ _, by simpa [setA] using H0.out⟩
 case round =>
  obtain ⟨k, hk, rfl, ho, hs⟩ := hrel
  obtain ⟨wo, hwo⟩ : ∃ wo, wo = wr := ⟨_, rfl⟩
  subst hwo
  have hRr : ExtR wo B E (natE es) := HR.out.only ho hB (fun ad h => by have := HF.out ad h; simp; omega)
  have HS := kH hs
  have HOn := kH ho
  clear hs ho
  by_cases hlt : k < es.length
  ·obtain ⟨ad, e, rfl, hab, he, hc0, hc1⟩ := hRr.get (k := k) (by rw [HN.out]; exact hlt)
   clear hRr
   obtain ⟨⟨x, y⟩, hek⟩ : ∃ e, es[k]? = some e := ⟨_, List.getElem?_eq_getElem hlt⟩
   obtain rfl : e = ((x : Int), (y : Int)) := by
    simp only [natE, List.getElem?_map, hek, Option.map_some, Option.some.injEq] at he
    exact he.symm
   have htk := List.take_add_one (l := es) (i := k)
   rw [hek] at htk
   have hall : AllR (setA fl (es.take k) b) x y (!b) := by
    have h := HO.out
    rw [<- List.take_append_drop (k + 1) es, htk, OkA.app, OkA.app] at h
    exact h.1.2.1
   have hset : setA fl (es.take (k + 1)) b = setR (setA fl (es.take k) b) x y b := by rw [htk, x8P]; rfl
   have HT := kH hset
   have hlim := HS.out.lim
   clear htk he hset hek
   generalize setA fl (es.take k) b = f1 at *
   have HA := kH hall
   have hxy := hall.1
   have hcl := x6J f1
   have hct := xDQ hall
   clear hall
   go_wp2_with (refine x26 rfl (.tmp 13) rfl _ rfl _ hc0 hc1 ?_)
   have B1 := Blk.new wo 198 #[.int .i64 (x : Int), .int .i64 (y : Int)]
   have S1 : SAt (wo.alloc (.cells #[.int .i64 (x : Int), .int .i64 (y : Int)] 198)) g r A c f1 (cnt f1) := HS.out.of (Below.heap_alloc _ _ _ HS.out.blk.lt) (fun _ _ hb => Below.heap_alloc _ _ _ hb.lt)
   have O1 : Only [g, r] wo (wo.alloc (.cells #[.int .i64 (x : Int), .int .i64 (y : Int)] 198)) := (Only.refl _ _).alloc _
   have hgl := HS.out.blk.lt
   have hs1 : wo.heap.size < (wo.alloc (.cells #[.int .i64 (x : Int), .int .i64 (y : Int)] 198)).heap.size := by simp
   clear hc0 hc1
   generalize wo.alloc (.cells #[.int .i64 (x : Int), .int .i64 (y : Int)] 198) = w1 at *
   have hgb : g ≠ wo.heap.size := by omega
   have HW := kH (kA O1 HOn.out)
   clear O1 HOn
   generalize wo.heap.size = gb at *
   have HB1 := kH B1
   have HS1 := kH S1
   clear B1 S1
   go_loopw [8, 17] (fun _ i wi => ∃ j : Nat, j <= y /\ i = .int .i64 j /\ Only [g, r] w1 wi /\ Blk wi gb 198 #[.int .i64 (x : Int), .int .i64 (y : Int)] /\ SAt wi g r A c (setR f1 x j b) (cnt f1)) (fun _ i _ => y - (intS i).toNat)
   case atStart => exact ⟨0, by omega, rfl, Only.refl _ _, HB1.out, by rw [xJB]; exact HS1.out⟩
   case round =>
    obtain ⟨j, hj, rfl, ho, hb, hs⟩ := hrel
    by_cases hlj : j < y
    ·have hl2 : (setR f1 x j b).length = f1.length := x0T (by omega) b
     have q0 : wr.cell? ⟨g, 0, none⟩ = some (.slice A f1.length c) := by rw [hs.blk.cell, hl2]; rfl
     have q1 : wr.cell? ⟨gb, 0, none⟩ = some (.int .i64 (x : Int)) := hb.cell 0
     obtain ⟨rfl, ⟨v, q2⟩, q3, hrl, -⟩ := hs.row.cell (j := x + j) (by rw [hl2]; omega)
     have hs2 : (⟨r, 0, none⟩ : Addr).add (x + j) = ⟨r, x + j, none⟩ := x15 _ _
     have q2' : wr.cell? ((⟨r, 0, none⟩ : Addr).add (x + j)) = some (.bool v) := by rw [hs2]; exact q2
     have q3' : wr.frozen? ((⟨r, 0, none⟩ : Addr).add (x + j)) = false := by rw [hs2]; exact q3
     have hix : ((x : Int) + (j : Int)).toNat = x + j := by omega
     have hwx : IntKind.i64.wrap ((x : Int) + (j : Int)) = (x : Int) + (j : Int) := by rw [IntKind.wrap_i64]; omega
     have HSs := kH hs
     have HBs := kH hb
     have HOs := kH ho
     clear hs hb ho
     go_wp2
     go_region
     all_goals go_wp2
     all_goals
      refine ⟨⟨j + 1, by omega, by go_num, (HOs.out.setCell (.inl (by simp)) _).drew, ?_, ?_⟩, by simp [intS]; omega⟩
      ·exact HBs.out.far (p := ⟨r, x + j, none⟩) (by show gb ≠ r; exact HBs.out.ne_ ((HSs.out.row.cell (j := x + j) (by rw [hl2]; omega)).2.2.2.2.choose_spec) (by decide)) _
      ·have h0 := HSs.out
       refine ⟨?_, by rw [x0T (by omega)]; have := h0.cap; rw [hl2] at this; exact this, by rw [x0T (by omega)]; exact hlim, ?_⟩
       ·have := h0.blk.far (p := ⟨r, x + j, none⟩) (by show g ≠ r; exact hgr) (.bool b)
        rw [hl2] at this
        rw [x0T (by omega)]
        exact this
       ·have := h0.row.set (j := x + j) (by rw [hl2]; omega) b
        rw [xJM (by omega)] at this
        exact this
    ·obtain rfl : j = y := by omega
     have hl2 : (setR f1 x j b).length = f1.length := x0T (by omega) b
     have q1 : wr.cell? ⟨g, 1, none⟩ = some (.int .i64 (cnt f1)) := hs.blk.cell 1
     have q2 : wr.cell? ⟨gb, 1, none⟩ = some (.int .i64 (j : Int)) := hb.cell 1
     have q3 : wr.frozen? ⟨g, 1, none⟩ = false := hs.blk.frozen 1
     have hwa : IntKind.i64.wrap ((cnt f1 : Int) + (j : Int)) = (cnt f1 : Int) + (j : Int) := by rw [IntKind.wrap_i64]; omega
     have hwb : IntKind.i64.wrap ((cnt f1 : Int) - (j : Int)) = (cnt f1 : Int) - (j : Int) := by rw [IntKind.wrap_i64]; omega
     have HSs := kH hs
     have HBs := kH hb
     have HOs := kH ho
     have HCt := kH hct
     clear hs hb ho hct
     have hend : ∀ (d : Int), d = (cnt (setR f1 x j b) : Int) -> Only [g, r] w (wr.setCell ⟨g, 1, none⟩ (.int .i64 d)) /\ SAt (wr.setCell ⟨g, 1, none⟩ (.int .i64 d)) g r A c (setA fl (es.take (k + 1)) b) (cnt (setA fl (es.take (k + 1)) b)) := by
      intro d hd
      have h0 := HSs.out
      refine ⟨((HW.out.2.trans HW.out.1 (Fresh.refl _ _)).trans (HOs.out.setCell (.inl (by simp)) _) (Fresh.refl _ _)), ?_⟩
      rw [HT.out]
      refine ⟨?_, h0.cap, h0.lim, h0.row.of fun t cs hb => Below.heap_setCell _ _ _ _ (by show r ≠ g; exact fun e => hgr e.symm)⟩
      have := h0.blk.set_ 1 (.int .i64 d)
      rw [hd] at this ⊢
      exact this
     have HE := kH hend
     clear hend
     cases b
     ·go_wp2
      go_region
      all_goals go_wp2
      all_goals
       have h1 := HE.out ((cnt f1 : Int) - (j : Int)) (by have := HCt.out; simp at this; omega)
       exact ⟨⟨k + 1, by omega, by go_num, h1.1.drew, h1.2.of rfl (fun _ _ _ => rfl)⟩, by simp [intS]; omega⟩
     ·go_wp2
      go_region
      all_goals go_wp2
      all_goals
       have h1 := HE.out ((cnt f1 : Int) + (j : Int)) (by have := HCt.out; simp at this; omega)
       exact ⟨⟨k + 1, by omega, by go_num, h1.1.drew, h1.2.of rfl (fun _ _ _ => rfl)⟩, by simp [intS]; omega⟩
  ·obtain rfl : k = es.length := by omega
   go_wp2
   refine bodyPost_end (results_none rfl _ _ _) rfl ?_
   have h := HS.out
   rw [List.take_length] at h
   exact ⟨rfl, HOn.out, h⟩
end
section
open Go.RowKit Go.BigFrame
theorem x36 : (Tryz.prog.info? 198).map (fun i => (i.zero, i.size, i.bytes)) = some (some (.agg #[.int .i64 0, .int .i64 0]), 2, 16) := by kernel_rfl
def OwnE (w : World) (base : Nat) (v : Value) (l : List (Int × Int)) : Prop := w.ownsRow base 198 2 v l.length (extS l)
section
variable {w w' : World} {base n c : Nat} {A : Option Addr} {v : Value} {l : List (Int × Int)}
theorem OwnE.ext (h : OwnE w base (.slice A l.length c) l) : ExtR w w.heap.size A l := Reads.of_own h
theorem OwnE.weaken {base' : Nat} (h : OwnE w base v l) (hb : base' <= base) : OwnE w base' v l := x0A h hb
theorem OwnE.form (h : OwnE w base v l) : ∃ (A : Option Addr) (cap : Nat), v = .slice A l.length cap /\ (∀ a, A = some a -> base <= a.block /\ a.block < w.heap.size /\ a = ⟨a.block, 0, none⟩) := by
 rcases h.2 with ⟨rfl, h0⟩ | ⟨g, cap, cur, rfl, hb, hh, _⟩
 ·exact ⟨none, 0, by rw [h0], fun a e => by cases e⟩
 ·refine ⟨_, cap, rfl, fun a e => ?_⟩
  injection e with e
  subst e
  exact ⟨hb, Blk.lt (t := 198) hh, rfl⟩
theorem OwnE.below (h : OwnE w base v l) {B : Nat} (hb : Below B w w') (hB : ∀ k, k ∈ rowOf v -> k < B) : OwnE w' base v l := x05 h fun k hk => hb.block k (hB k hk)
theorem OwnE.nil (w : World) (base : Nat) : OwnE w base (.slice none 0 0) [] := World.ownsRow_nil w base _ 2
end
theorem x7P {w : World} {ops : Array Oper} {rest : List Oper} {o : Oper} {a : Act} {Q : Exit -> Act -> World -> Prop} (s x : Operand)
  (hgd : o.guard = none) (ho : o.op = .call { callee := .builtin .append, args := #[s, x], argTypes := #[135, 135] })
  (base : Nat) (v : Value) (l : List (Int × Int)) (hs : a.eval s = v) (hown : OwnE w base v l)
  (B : Nat) (A : Option Addr) (m c : Nat) (news : List (Int × Int)) (hx : a.eval x = .slice A m c) (hm : m = news.length) (hr : ExtR w B A news)
  (hsz : l.length + m <= 10000000) (hbase : base <= w.heap.size)
  (h : ∀ v' w', OwnE w' base v' (l ++ news) -> w.grownBy w' v.ownBlock -> (v'.ownBlock = v.ownBlock ∨ v'.ownBlock = some w.heap.size) -> wpList Tryz.prog ops Q rest (a.put o.dst v') w') :
  wpList Tryz.prog ops Q (o :: rest) a w := by
 subst hm
 obtain ⟨i0, hi0, hz0, hz1, hz2⟩ := info_parts x36
 refine x0X w hgd s x _ ho base 198 i0 _ 2 16 Tryz.underlying135 hi0 hz0 hz1 hz2 rfl (by omega) v l.length (extS l) hs hown B A news.length c (extS news) hx hr (x3Y _) (by simp only [maxLen]; omega) (by omega) hbase ?_
 intro v' w' h1 h2 h3
 exact h v' w' (by unfold OwnE; rw [extS, List.flatMap_append, List.length_append]; exact h1) h2 h3
theorem x2A (v : Int × Int) (w : World) : (Instr.buildSlice 135 1 #[(0, .agg #[.int .i64 v.1, .int .i64 v.2])]).run Tryz.prog w = .ok (.slice (some ⟨w.heap.size, 0, none⟩) 1 1) (w.alloc (.cells (ext1 v).toArray 198)) :=
  x1A (size := 2) Tryz.underlying135 (by kernel_rfl) (by omega) (by omega) rfl w
theorem x3V (w : World) (v : Int × Int) : ExtR (w.alloc (.cells (ext1 v).toArray 198)) (w.heap.size + 1) (some ⟨w.heap.size, 0, none⟩) [v] := by
 have := Reads.newN w (ext1 v) 1 2 198 (0, 0) rfl
 simpa [ExtR, extS] using this
set_option maxHeartbeats 1000000 in
theorem xGM {w : World} {g r c : Nat} {A : Option Addr} {fl : List Bool} {left : Int} (h : SAt w g r A c fl left) :
  Calls Tryz.prog 214 #[.pointer (some ⟨g, 0, none⟩)] w fun e w' => ∃ v, e = .returned v /\ OwnE w' w.heap.size v (natE (hol 0 fl)) /\ Below w.heap.size w w' := by
 have H := kH h
 have hlim := h.lim
 have hcap := h.cap
 have hgl := h.blk.lt
 have hrl : ∀ wx, Below w.heap.size w wx -> SAt wx g r A c fl left := fun wx hb => h.of (hb.block g hgl) (fun _ _ hx => hb.block r hx.lt)
 have HK := kH hrl
 clear h hrl
 go_enter Tryz.func214, Tryz.ntmps214
 go_wp2
 go_loopw [3, 4] (fun v i wr => ∃ (k : Nat) (l : List (Int × Int)), k <= fl.length + 1 /\ i = .int .i64 k /\ OwnE wr w.heap.size v l /\ l.length <= k /\ Below w.heap.size w wr /\ l ++ natE (hol k (fl.drop k)) = natE (hol 0 fl)) (fun _ i _ => fl.length + 2 - (intS i).toNat)
 case atStart => exact ⟨0, [], by omega, rfl, OwnE.nil _ _, by simp, Below.refl _ _, by simp⟩
 case round =>
  obtain ⟨k, l, hk, rfl, ho, hlk, hb, hl⟩ := hrel
  obtain ⟨A1, cap, rfl, hA1⟩ := ho.form
  have hs := HK.out _ hb
  have HL := kH hl
  have HO := kH ho
  have HB := kH hb
  have HS := kH (x41 hs.blk)
  have hrb := hs.row.reads
  have HF := fun (hk : k <= fl.length) => xD0 fl k hk hcap (by omega) hs.blk hrb
  clear hl ho hb hs hA1 hrb
  by_cases hlt : k < fl.length
  ·have HF' := kH (HF (by omega))
   clear HF
   have hru := xPD (fl.drop k)
   rw [List.length_drop] at hru
   have h0 := xJ9 (fl.drop k) k
   have h1 := xL8 (fl.drop k) k
   rw [List.drop_drop] at h0 h1
   have HH := kH (kA h0 h1)
   clear h0 h1
   generalize runOf (fl.drop k) = n at *
   go_wp2_with fail
   refine HS.out.mono ?_
   rintro e w' ⟨rfl, rfl⟩
   go_wp2_with fail
   refine HF'.out.mono ?_
   rintro e w' ⟨rfl, rfl⟩
   by_cases hn : n = 0
   ·have hN := HH.out.1 hn
    have HN := kH hN
    clear hN HH
    subst hn
    go_wp2
    go_roundw
    case rel => exact ⟨k + 1, l, by omega, by go_num, HO.out, by omega, HB.out, by rw [<- HN.out]; exact HL.out⟩
    case measure => simp [intS]; omega
   ·have hd : decide ((0 : Int) < (n : Int)) = true := decide_eq_true (by omega)
    have hN := HH.out.2 (by omega)
    have HN := kH hN
    clear hN HH
    have hbz := HB.out.size
    have hex := x3V wr ((k : Int), (n : Int))
    have how : OwnE (wr.alloc (.cells (ext1 ((k : Int), (n : Int))).toArray 198)) w.heap.size (.slice A1 l.length cap) l := HO.out.alloc _
    have HX := kH (kA hex how)
    clear hex how
    have hbw : Below w.heap.size w (wr.alloc (.cells (ext1 ((k : Int), (n : Int))).toArray 198)) := HB.out.alloc (by omega) _
    have HBW := kH hbw
    clear hbw
    have hwx : IntKind.i64.wrap ((k : Int) + (n : Int)) = (k : Int) + (n : Int) := by rw [IntKind.wrap_i64]; omega
    go_wp2_with (refine x7P (.tmp 17) (.tmp 21) rfl rfl w.heap.size (.slice A1 l.length cap) l rfl HX.out.2 (wr.heap.size + 1) _ 1 1 [((k : Int), (n : Int))] rfl rfl HX.out.1 (by omega) (by simp; omega) ?_; intro v2 w2 h2 g2 a2)
    have hb2 : Below w.heap.size w w2 := HBW.out.grown g2 (by simp; omega) (fun j hj => (World.ownsRow.lt HO.out _ hj).1)
    have HB2 := kH hb2
    have HO2 := kH h2
    clear hb2 h2 a2 g2
    go_roundw
    case rel =>
     refine ⟨k + n + 1, l ++ [((k : Int), (n : Int))], by omega, by go_num, HO2.out, by simp; omega, HB2.out, ?_⟩
     have hL := HL.out
     rw [HN.out] at hL
     rw [<- hL]
     simp only [natE, List.map_cons, List.append_assoc, List.singleton_append]
     rw [show k + (n + 1) = k + n + 1 by omega]
    case measure => simp [intS]; omega
  ·clear HF
   go_wp2_with fail
   refine HS.out.mono ?_
   rintro e w' ⟨rfl, rfl⟩
   go_wp2
   go_ret
   have h := HL.out
   rw [List.drop_of_length_le (by omega)] at h
   simp [hol, natE] at h
   exact ⟨_, rfl, by rw [natE, <- h]; exact HO.out, HB.out⟩
end
section
open Go.RowKit Go.BigFrame
def InI (e : Int × Int) : Prop := (-9223372036854775808 <= e.1 /\ e.1 <= 9223372036854775807) /\ -9223372036854775808 <= e.2 /\ e.2 <= 9223372036854775807
def AllE (fl : List Bool) (e : Int × Int) (b : Bool) : Prop := ∃ x y : Nat, e = ((x : Int), (y : Int)) /\ 1 <= y /\ AllR fl x y b
def Told (w : World) (P : Prop) (e : Ending) (w' : World) : Prop := ∃ r : Bool, e = .returned (.bool r) /\ Below w.heap.size w w' /\ (r = true ↔ P)
theorem x5S {fl : List Bool} {x y : Nat} (h : x + y <= fl.length) (b : Bool) : (∀ z ∈ (fl.drop x).take y, z = b) ↔ AllR fl x y b := by
 refine ⟨fun hz => ⟨h, fun j hj hk => ?_⟩, fun ha z hz => ?_⟩
 ·have hjl : j < fl.length := by omega
  rw [List.getElem?_eq_getElem hjl, Option.some.injEq]
  refine hz _ ?_
  have : ((fl.drop x).take y)[j - x]? = some fl[j] := by
   rw [List.getElem?_take, if_pos (by omega), List.getElem?_drop, show x + (j - x) = j by omega, List.getElem?_eq_getElem hjl]
  exact List.mem_of_getElem? this
 ·obtain ⟨k, hk, rfl⟩ := List.mem_iff_getElem.1 hz
  have hkl : k < y := by simp at hk; omega
  have h1 := ha.2 (x + k) (by omega) (by omega)
  have : ((fl.drop x).take y)[k]? = some (((fl.drop x).take y)[k]) := List.getElem?_eq_getElem hk
  rw [List.getElem?_take, if_pos hkl, List.getElem?_drop, h1] at this
  injection this with this
  exact this.symm
theorem xM3 {w : World} {g r c : Nat} {A : Option Addr} {fl : List Bool} {left : Int} (e : Int × Int) (b : Bool) (hi : InI e) (h : SAt w g r A c fl left) :
  Calls Tryz.prog 249 #[.pointer (some ⟨g, 0, none⟩), .agg #[.int .i64 e.1, .int .i64 e.2], .bool b] w (Told w (AllE fl e b)) := by
 obtain ⟨x, y⟩ := e
 have hlim := h.lim
 by_cases hno : y < 1 ∨ x < 0 ∨ (fl.length : Int) < x + y
 ·refine (xKY fl x y b hi.1.1 hi.1.2 hi.2.1 hi.2.2 (by omega) h.blk hno).mono ?_
  rintro e w' ⟨rfl, hb⟩
  refine ⟨false, rfl, hb, by simp, fun ⟨nx, ny, he, h1, h2⟩ => ?_⟩
  injection he with e1 e2
  have := h2.1
  omega
 ·obtain ⟨nx, rfl⟩ : ∃ n : Nat, x = n := ⟨x.toNat, by omega⟩
  obtain ⟨ny, rfl⟩ : ∃ n : Nat, y = n := ⟨y.toNat, by omega⟩
  have hpos : fl ≠ [] := fun e => by subst e; simp at hno; omega
  have hrl : r + 1 <= w.heap.size := by
   rcases h.row with e | ⟨_, cs, hb, _⟩
   ·exact absurd e hpos
   ·exact hb.lt
  refine (xOR fl nx ny b (by omega) (by omega) h.cap (by omega) h.blk hrl h.row.reads).mono ?_
  rintro e w' ⟨r, rfl, hb, hr⟩
  refine ⟨r, rfl, hb, hr.trans ⟨fun hz => ⟨nx, ny, rfl, by omega, (x5S (by omega) b).1 hz⟩, fun ⟨a, d, he, h1, h2⟩ => ?_⟩⟩
  injection he with e1 e2
  obtain rfl : nx = a := by omega
  obtain rfl : ny = d := by omega
  exact (x5S (by omega) b).2 h2
theorem x44 (A : Option Addr) (n c i : Nat) (h : i <= c) (w : World) : (Instr.slice 135 (.slice A n c) none (some (.int .i64 (i : Int))) none).run Tryz.prog w = .ok (.slice (if c = 0 then A else A.map (·.add 0)) i c) w := by
 have hsz : ∀ w, (sizeOf (Tryz.prog.elem 135)).run Tryz.prog w = .ok 2 w := fun w => by kernel_rfl
 rw [run_slice_h w 135 A n c (by kernel_rfl) .i64 (i : Int) (by omega) (by omega), hsz]
 simp [Result.andThen, sliced]
theorem xE3 (A : Option Addr) (n c i : Nat) (h : i + 1 <= c) (w : World) : (Instr.slice 135 (.slice A n c) (some (.int .i64 (i : Int))) (some (.int .i64 ((i : Int) + 1))) none).run Tryz.prog w = .ok (.slice (A.map (·.add (i * 2))) 1 (c - i)) w := by
 have hsz : ∀ w, (sizeOf (Tryz.prog.elem 135)).run Tryz.prog w = .ok 2 w := fun w => by kernel_rfl
 rw [run_slice_lh w 135 A n c (by kernel_rfl) .i64 .i64 (i : Int) ((i : Int) + 1) (by omega) (by omega) (by omega), hsz]
 simp only [Result.andThen, sliced, Int.toNat_natCast]
 rw [show ((i : Int) + 1).toNat - i = 1 by omega, if_neg (by omega)]
def TurnOk (fl : List Bool) (es : List (Int × Int)) (b : Bool) (ns : List (Nat × Nat)) : Prop := es = natE ns /\ (∀ e ∈ ns, 1 <= e.2) /\ OkA fl ns b
theorem TurnOk.snoc {fl : List Bool} {es : List (Int × Int)} {b : Bool} {ns : List (Nat × Nat)} (h : TurnOk fl es b ns) {e : Int × Int} (ha : AllE (setA fl ns b) e (!b)) : ∃ x y : Nat, e = ((x : Int), (y : Int)) /\ AllR (setA fl ns b) x y (!b) /\ TurnOk fl (es ++ [e]) b (ns ++ [(x, y)]) := by
 obtain ⟨x, y, rfl, hy, ha⟩ := ha
 refine ⟨x, y, rfl, ha, by rw [h.1]; simp [natE], fun e he => ?_, OkA.app.2 ⟨h.2.2, ha, trivial⟩⟩
 rcases List.mem_append.1 he with he | he
 ·exact h.2.1 e he
 ·simp at he; subst he; exact hy
theorem TurnOk.stop {fl : List Bool} {es fs : List (Int × Int)} {b : Bool} {ns : List (Nat × Nat)} (h : TurnOk fl es b ns) {e : Int × Int} (ha : ¬ AllE (setA fl ns b) e (!b)) : ∀ ms, ¬ TurnOk fl (es ++ e :: fs) b ms := by
 rintro ms ⟨h1, h2, h3⟩
 have hl : es.length <= ms.length := by have := congrArg List.length h1; simp [natE] at this; omega
 have e1 : natE (ms.take es.length) = es := by
  have := congrArg (List.take es.length) h1
  rw [List.take_left' rfl] at this
  rw [natE, List.map_take]
  exact this.symm
 have inj : ∀ a b : List (Nat × Nat), natE a = natE b -> a = b := fun a b hab => by
  refine (List.map_inj_right ?_).1 hab
  rintro ⟨p, q⟩ ⟨p', q'⟩ hh
  simp only [Prod.mk.injEq] at hh ⊢
  omega
 have e2 : ms.take es.length = ns := inj _ _ (e1.trans h.1)
 have e3 := congrArg (List.drop es.length) h1
 rw [List.drop_left' rfl, natE, <- List.map_drop] at e3
 cases hd : ms.drop es.length with
 | nil => rw [hd] at e3; simp at e3
 | cons m r =>
  rw [hd] at e3
  simp only [List.map_cons, List.cons.injEq] at e3
  have hm : m ∈ ms := List.mem_of_mem_drop (by rw [hd]; exact List.mem_cons_self ..)
  rw [<- List.take_append_drop es.length ms, e2, hd, OkA.app] at h3
  exact ha ⟨m.1, m.2, e3.1, h2 m hm, h3.2.1⟩
def TurnTo (w : World) (g r c : Nat) (A : Option Addr) (fl : List Bool) (es : List (Int × Int)) (b : Bool) (e : Ending) (w' : World) : Prop :=
  Only [g, r] w w' /\ ((∃ ns, TurnOk fl es b ns /\ e = .returned .nilIface /\ SAt w' g r A c (setA fl ns b) (cnt (setA fl ns b))) ∨ ((∀ ns, ¬ TurnOk fl es b ns) /\ e = .returned (errV 1) /\ SAt w' g r A c fl (cnt fl)))
set_option maxHeartbeats 1000000 in
theorem xAN {w : World} {g r c B : Nat} {A : Option Addr} {fl : List Bool} (es : List (Int × Int)) (b : Bool) (hI : ∀ e ∈ es, InI e) (h : SAt w g r A c fl (cnt fl)) (hgr : g ≠ r) (E : Option Addr) (c' : Nat) (hc' : es.length <= c') (hR : ExtR w B E es) (hB : B <= w.heap.size)
  (hfar : ∀ ad, E = some ad -> ad.block ≠ g /\ ad.block ≠ r) (hle : es.length <= 65536) :
  Calls Tryz.prog 211 #[.pointer (some ⟨g, 0, none⟩), .slice E es.length c', .bool b] w (TurnTo w g r c A fl es b) := by
 have H0 := kH h
 have HR := kH hR
 have HF := kH hfar
 have HI := kH hI
 clear h hR hfar hI
 go_enter Tryz.func211, Tryz.ntmps211
 go_wp2
 go_loopw [11] (fun i wr => ∃ (k : Nat) (ns : List (Nat × Nat)), k <= es.length /\ i = .int .i64 k /\ Only [g, r] w wr /\ TurnOk fl (es.take k) b ns /\ SAt wr g r A c (setA fl ns b) (cnt (setA fl ns b))) (fun i _ => es.length - (intS i).toNat)
 case atStart => exact ⟨0, [], by omega, rfl, Only.refl _ _, ⟨rfl, by simp, trivial⟩, by simpa [setA] using H0.out⟩
 case round =>
  obtain ⟨k, ns, hk, rfl, ho, ht, hs⟩ := hrel
  obtain ⟨wo, hwo⟩ : ∃ wo, wo = wr := ⟨_, rfl⟩
  subst hwo
  have HS := kH hs
  have HT := kH ht
  have HOn := kH ho
  have hRr : ExtR wo B E es := HR.out.only ho hB (fun ad h => by have := HF.out ad h; simp; omega)
  clear hs ho ht
  by_cases hlt : k < es.length
  ·obtain ⟨ad, e, rfl, hab, he, hc0, hc1⟩ := hRr.get hlt
   have HRr := kH hRr
   have hie : InI e := HI.out e (List.mem_of_getElem? he)
   have htk := List.take_add_one (l := es) (i := k)
   rw [he] at htk
   have hsp : es = es.take k ++ e :: es.drop (k + 1) := by
    have h0 := (List.take_append_drop k es).symm
    rwa [List.drop_eq_getElem_cons hlt, show es[k] = e by rw [List.getElem?_eq_getElem hlt] at he; injection he] at h0
   have HT2 := kH (kA htk (kA hsp he))
   have S1 : SAt (wo.alloc (.cells #[.int .i64 e.1, .int .i64 e.2] 198)) g r A c (setA fl ns b) (cnt (setA fl ns b)) := HS.out.of (Below.heap_alloc _ _ _ HS.out.blk.lt) (fun _ _ hb => Below.heap_alloc _ _ _ hb.lt)
   have O1 : Only [g, r] w (wo.alloc (.cells #[.int .i64 e.1, .int .i64 e.2] 198)) := HOn.out.alloc _
   have HS1 := kH S1
   have HO1 := kH O1
   have HA := kH (xM3 e (!b) hie S1)
   clear hRr htk hsp he S1 O1
   go_wp2_with (refine x26 rfl (.tmp 14) rfl _ rfl _ hc0 hc1 ?_)
   clear hc0 hc1
   refine HA.out.mono ?_
   rintro e3 w3 ⟨rr, rfl, hb3, hrr⟩
   have S3 : SAt w3 g r A c (setA fl ns b) (cnt (setA fl ns b)) := HS1.out.of (hb3.block g HS1.out.blk.lt) (fun _ _ hx => hb3.block r hx.lt)
   have O3 : Only [g, r] w w3 := HO1.out.trans (Only.of_below hb3 [g, r]) (Fresh.refl _ _)
   have R3 : ExtR w3 B (some ad) es := HR.out.only O3 hB (fun ad h => by have := HF.out ad h; simp; omega)
   have z3 := O3.size
   have HX := kH (kA S3 (kA O3 R3))
   have HRR := kH hrr
   clear HS HS1 HO1 HA HRr S3 O3 R3 hb3 hrr
   cases rr
   ·have hno : ¬ AllE (setA fl ns b) e (!b) := fun h => by have := HRR.out.2 h; cases this
    have HN := kH hno
    clear hno
    have hkl : (es.take k).length = k := by simp; omega
    have hnl : ns.length = k := by have := congrArg List.length HT.out.1; simp [natE] at this; omega
    have hback := HT.out.2.2.back
    have hRk : ExtR w3 B (some ad) (natE ns) := by
     rw [<- HT.out.1]
     have := HX.out.2.2
     refine ⟨by rw [x63], fun hn => ?_⟩
     obtain ⟨ad', e', hb', hc'⟩ := this.2 (by omega)
     refine ⟨ad', e', hb', fun j u hu => hc' j u ?_⟩
     rw [<- List.take_append_drop k es, extS, List.flatMap_append]
     exact (List.getElem?_append_left (show j < (extS (es.take k)).length from (List.getElem?_eq_some_iff.1 hu).1)).trans hu
    have hsl := x44 (some ad) es.length c' k (by omega)
    have hadd : (if c' = 0 then some ad else Option.map (fun x => Addr.add x 0) (some ad)) = some ad := by split <;> simp [Addr.add]
    rw [hadd] at hsl
    have hset := x8I (B := B) ns (!b) (hback.1) HX.out.1 hgr (some ad) c' hRk (by omega) (fun ad' h => HF.out ad' h) (by omega)
    rw [hback.2, hnl] at hset
    have HSE := kH hset
    clear hset hback hRk hadd
    go_wp2_with fail
    refine HSE.out.mono ?_
    rintro e4 w4 ⟨rfl, ho4, hs4⟩
    go_wp2
    go_ret
    refine ⟨HX.out.2.1.trans ho4 (Fresh.refl _ _), .inr ⟨?_, rfl, hs4⟩⟩
    rw [HT2.out.2.1]
    exact HT.out.stop HN.out
   ·obtain ⟨x, y, rfl, hxy, htn⟩ := HT.out.snoc (HRR.out.1 rfl)
    have hRk : ExtR w3 B (some (ad.add (k * 2))) (natE [(x, y)]) := by
     have := HX.out.2.2
     obtain ⟨ad', e1, e', hb', h0, h1, h2⟩ := this.get hlt
     have he2 := HT2.out.2.2
     rw [h0] at he2
     injection he2 with he2
     subst he2
     injection e' with e'
     subst e'
     refine ⟨rfl, fun _ => ⟨_, rfl, by rw [x0L]; exact hb', fun j u hu => ?_⟩⟩
     match j, hu with
     | 0, hu => simp [extS, ext1, natE] at hu; subst hu; simpa [Addr.add] using h1
     | 1, hu => simp [extS, ext1, natE] at hu; subst hu; exact h2
    have hsl := xE3 (some ad) es.length c' k (by omega)
    rw [Option.map_some] at hsl
    have hset := x8I (B := B) [(x, y)] b ⟨hxy, trivial⟩ HX.out.1 hgr (some (ad.add (k * 2))) (c' - k) hRk (by omega) (fun ad' h => by injection h with h; subst h; rw [x0L]; exact HF.out ad rfl) (by simp)
    rw [show setA (setA fl ns b) [(x, y)] b = setA fl (ns ++ [(x, y)]) b from (x8P _ _ _ _).symm] at hset
    have HSE := kH hset
    have HTN := kH htn
    have hwk : IntKind.i64.wrap ((k : Int) + 1) = (k : Int) + 1 := by rw [IntKind.wrap_i64]; omega
    clear hset hRk hxy htn
    go_wp2_with fail
    refine HSE.out.mono ?_
    rintro e4 w4 ⟨rfl, ho4, hs4⟩
    have HF4 := kH (kA ho4 hs4)
    clear ho4 hs4
    go_wp2
    go_roundw
    case rel => exact ⟨k + 1, ns ++ [(x, y)], by omega, by go_num, HX.out.2.1.trans HF4.out.1 (Fresh.refl _ _), by rw [HT2.out.1]; exact HTN.out, HF4.out.2⟩
    case measure => simp [intS]; omega
  ·obtain rfl : k = es.length := by omega
   clear hRr
   go_wp2
   go_ret
   have h := HT.out
   rw [List.take_length] at h
   exact ⟨HOn.out, .inl ⟨ns, h, rfl, HS.out⟩⟩
end
section
open Go.RowKit Go.BigFrame
set_option maxHeartbeats 1000000 in
theorem xHX (n : Nat) (hn : n <= 65536) (w : World) : Calls Tryz.prog 242 #[.int .u64 1, .int .u64 n] w fun e w' => e = .returned (.tuple #[.int .u64 0, .int .u64 n]) /\ w = w' := by
 have hb1 : bits .and .u64 1 4294967295 = 1 := by kernel_rfl
 have hb0 : bits .and .u64 0 4294967295 = 0 := by kernel_rfl
 have hbn : bits .and .u64 (n : Int) 4294967295 = (n : Int) := by
  have h := bits_and_u64_nat n 4294967295 (by omega) (by omega)
  rw [show n &&& 4294967295 = n from Nat.and_two_pow_sub_one_of_lt_two_pow (n := 32) (by omega)] at h
  exact h
 have hd : (n : Int) / 4294967296 = 0 := by omega
 have hwn : IntKind.u64.wrap (n : Int) = (n : Int) := by rw [IntKind.wrap_u64]; omega
 have hw0 : IntKind.u64.wrap 0 = 0 := by kernel_rfl
 go_enter Tryz.func242, Tryz.ntmps242
 go_wp2
 go_ret2
 simp [hb1, hb0, hbn, hd, hwn, hw0]
theorem xF4 (n : Nat) (hn : n <= 65536) (w : World) : Calls Tryz.prog 203 #[.int .u64 1, .int .u64 n] w fun e w' => e = .returned (.tuple #[.int .u64 0, .int .u64 n]) /\ w = w' := by
 go_enter Tryz.func203, Tryz.ntmps203
 go_wp2_with fail
 refine (xHX n hn w).mono ?_
 rintro e w' ⟨rfl, rfl⟩
 go_wp2
 go_ret2
 exact ⟨rfl, rfl⟩
theorem xBG : (Tryz.prog.info? 4).map (fun i => (i.zero, i.size, i.bytes)) = some (some (.bool false), 1, 1) := by kernel_rfl
theorem x5E : (Tryz.prog.info? 4).map (·.size) = some 1 := by kernel_rfl
theorem xGN (m k : Nat) (v : Value) (hm : 0 < m) : madeCells (List.replicate m v).toArray k = (List.replicate k v).toArray := by
 unfold madeCells
 apply Array.ext
 ·simp
 ·intro i h1 h2
  have h3 : i % m < m := Nat.mod_lt _ hm
  have h4 : i % (List.replicate m v).toArray.size < (List.replicate m v).toArray.size := by simpa using h3
  rw [Array.getElem_map, Array.getElem_range, getElem!_pos (List.replicate m v).toArray (i % (List.replicate m v).toArray.size) h4]
  simp
theorem xHF (k : Nat) (v : Value) : madeCells (List.replicate 1 v).toArray k = (List.replicate k v).toArray := xGN 1 k v (by omega)
def fillB (n k : Nat) : Array Value := (List.replicate k (Value.bool true) ++ List.replicate (n - k) (Value.bool false)).toArray
theorem x9B {n k m : Nat} (h : k + m <= n) : ((fillB n k).toList.take k ++ List.replicate m (Value.bool true) ++ (fillB n k).toList.drop (k + m)).toArray = fillB n (k + m) := by
 have e1 : (List.replicate k (Value.bool true) ++ List.replicate (n - k) (Value.bool false)).take k = List.replicate k (Value.bool true) := by simp
 have e2 : (List.replicate k (Value.bool true) ++ List.replicate (n - k) (Value.bool false)).drop (k + m) = List.replicate (n - (k + m)) (Value.bool false) := by
  rw [List.drop_append, List.drop_of_length_le (by simp), List.length_replicate, List.nil_append, List.drop_replicate]
  congr 1; omega
 simp only [fillB, e1, e2, List.replicate_append_replicate]
theorem xG3 (n : Nat) : fillB n n = (List.replicate n (Value.bool true)).toArray := by simp [fillB]
theorem xGW {w : World} {r n k j : Nat} (h : Blk w r 4 (fillB n k)) (hj : j < k) : w.cell? ⟨r, j, none⟩ = some (.bool true) := by
 rw [h.cell]
 simp only [fillB, List.getElem?_toArray]
 rw [List.getElem?_append_left (by simpa using hj), List.getElem?_replicate, if_pos hj]
theorem xC0 {w : World} {r n k m c2 : Nat} (h : Blk w r 4 (fillB n k)) (hk : 0 < k) (hkn : k < n) (hm : m = Nat.min k (n - k)) :
  (Builtin.copy_ #[23, 23] 3 #[.slice (some ⟨r, k, none⟩) (n - k) (n - k), .slice (some ⟨r, 0, none⟩) k c2]).run Tryz.prog w = .ok (.int .i64 m) (w.setRow r (fillB n (k + m))) := by
 have hmk : m <= k /\ m <= n - k := by subst hm; exact ⟨Nat.min_le_left _ _, Nat.min_le_right _ _⟩
 have := run_copy_row (P := Tryz.prog) w 23 23 3 4 r k (n - k) (n - k) ⟨r, 0, none⟩ k c2 (fillB n k) 4 (List.replicate m (.bool true)) Tryz.underlying23 x5E h (by simpa using hm) (fun j v hj => by
  rw [List.getElem?_replicate] at hj
  split at hj
  ·injection hj with hj; subst hj; rw [x15]; exact xGW h (by omega)
  ·cases hj) (by simp [fillB]; omega) (fun v hv => by rw [List.eq_of_mem_replicate hv]; rfl)
 rw [this, List.length_replicate, x9B (by omega)]
 rfl
theorem x9Q {w : World} {r : Nat} {t : TypeId} {cs ds : Array Value} (h : Blk w r t cs) : Blk (w.setRow r ds) r t ds := setRow_heap w r cs ds t (0, 0) h
set_option maxHeartbeats 1000000 in
theorem xH7 (n gx : Nat) (hn : n <= 65536) (w : World) (hx : w.cell? ⟨gx, 0, none⟩ = some (.bool true)) (hgx : gx < w.heap.size) :
  Calls Tryz.prog 143 #[.slice (some ⟨gx, 0, none⟩) 1 1, .int .i64 n] w fun e w' => ∃ r, e = .returned (.slice (some ⟨r, 0, none⟩) n n) /\ w.heap.size <= r /\ Blk w' r 4 (List.replicate n (Value.bool true)).toArray /\ Below w.heap.size w w' := by
 have hmk : ∀ w : World, (Instr.makeSlice 23 (.int .i64 (n : Int)) (.int .i64 (n : Int))).run Tryz.prog w = .ok (.slice (some ⟨w.heap.size, 0, none⟩) n n) (w.alloc (.cells (fillB n 0) 4)) := by
  intro w
  obtain ⟨i0, hi0, hz0, hz1, hz2⟩ := info_parts xBG
  have := run_make (P := Tryz.prog) w 23 4 i0 (.bool false) Tryz.underlying23 hi0 hz0 .i64 .i64 n n (by omega) (by omega) (by rw [hz2]; omega) (by omega)
  rw [hz1] at this
  simp only [Int.toNat_natCast, Nat.mul_one] at this
  rw [this]
  have e : (Value.bool false).cells = (List.replicate 1 (Value.bool false)).toArray := rfl
  rw [e, xHF]
  simp [fillB]
 have hB0 : Blk (w.alloc (.cells (fillB n 0) 4)) w.heap.size 4 (fillB n 0) := Blk.new _ _ _
 have hx1 : (w.alloc (.cells (fillB n 0) 4)).cell? ⟨gx, 0, none⟩ = some (.bool true) := (World.cell?_alloc_lt w _ _ hgx).trans hx
 have hc1 : ∃ W, W.heap.size = w.heap.size + 1 /\ Below w.heap.size w W /\ Blk W w.heap.size 4 (fillB n (min 1 n)) /\ (Builtin.copy_ #[23, 23] 3 #[.slice (some ⟨w.heap.size, 0, none⟩) n n, .slice (some ⟨gx, 0, none⟩) 1 1]).run Tryz.prog (w.alloc (.cells (fillB n 0) 4)) = .ok (.int .i64 (min 1 n : Nat)) W := by
  by_cases h0 : n = 0
  ·subst h0
   exact ⟨_, by simp, (Below.refl _ _).alloc (Nat.le_refl _) _, hB0, run_copy_none _ _ _ _ 4 _ _ _ _ _ _ Tryz.underlying23 x5E rfl⟩
  ·have h1 : min 1 n = 1 := by omega
   rw [h1]
   have := run_copy_row (P := Tryz.prog) (w.alloc (.cells (fillB n 0) 4)) 23 23 3 4 w.heap.size 0 n n ⟨gx, 0, none⟩ 1 1 (fillB n 0) 4 (List.replicate 1 (.bool true)) Tryz.underlying23 x5E hB0 (by
    show 1 = Nat.min 1 n
    exact h1.symm) (fun j v hj => by
    match j, hj with
    | 0, hj => simp at hj; subst hj; simpa [Addr.add] using hx1) (by simp [fillB]; omega) (fun v hv => by rw [List.eq_of_mem_replicate hv]; rfl)
   refine ⟨_, ?_, ?_, ?_, this⟩
   ·simp [World.setRow]
   ·exact below_setRow ((Below.refl _ _).alloc (Nat.le_refl _) _) (Nat.le_refl _) _
   ·have e := x9B (n := n) (k := 0) (m := 1) (by omega)
    simp only [Nat.zero_add] at e
    rw [List.length_replicate, Nat.zero_add, e]
    exact x9Q hB0
 obtain ⟨W, hWs, hWb, hWB, hrun⟩ := hc1
 have HW := kH (kA hWb hWB)
 have hkk : min 1 n <= n := Nat.min_le_right _ _
 have hk0 : 0 < n -> 0 < min 1 n := by omega
 clear hx hB0 hx1 hWb hWB
 generalize min 1 n = k0 at *
 have hg1 : decide ((9223372036854775807 : Int) < (n : Int)) = false := decide_eq_false (by omega)
 have hg0 : decide ((n : Int) < 0) = false := decide_eq_false (by omega)
 go_enter Tryz.func143, Tryz.ntmps143
 go_wp2_with fail
 refine (xF4 n hn w).mono ?_
 rintro e w' ⟨rfl, rfl⟩
 go_wp2_with fail
 generalize hrr : w.heap.size = r at *
 have HRR := kH hrr
 clear hrr
 go_loopw [8] (fun i wr => ∃ k : Nat, k <= n /\ (0 < n -> 0 < k) /\ i = .int .i64 k /\ Blk wr r 4 (fillB n k) /\ Below r w wr) (fun i _ => n - (intS i).toNat)
 case atStart => exact ⟨k0, hkk, hk0, rfl, HW.out.2, HW.out.1⟩
 case round =>
  obtain ⟨k, hk, hkp, rfl, hB, hb⟩ := hrel
  by_cases hlt : k < n
  ·have hc := xC0 (c2 := n) hB.drew (hkp (by omega)) hlt rfl
   have HB := kH (kA hB hb)
   have hmp : 0 < Nat.min k (n - k) := Nat.lt_min.2 ⟨hkp (by omega), by omega⟩
   have hmn : k + Nat.min k (n - k) <= n := by have : Nat.min k (n - k) <= n - k := Nat.min_le_right k (n - k); omega
   clear hB hb
   generalize Nat.min k (n - k) = m at *
   have hne : ¬ (n = k) := by omega
   have hwx : IntKind.i64.wrap ((k : Int) + (m : Int)) = (k : Int) + (m : Int) := by rw [IntKind.wrap_i64]; omega
   go_wp2
   go_region
   all_goals go_wp2
   all_goals
    refine ⟨⟨k + m, hmn, fun _ => by omega, by go_num, ?_, ?_⟩, by simp [intS]; omega⟩
    ·exact x9Q HB.out.1.drew
    ·exact below_setRow (x08 HB.out.2 1) (Nat.le_refl _) _
  ·obtain rfl : k = n := by omega
   have HB := kH (kA hB hb)
   clear hB hb
   go_wp2
   go_ret
   exact ⟨r, rfl, by rw [HRR.out]; exact Nat.le_refl _, by rw [<- xG3]; exact HB.out.1, by rw [HRR.out]; exact HB.out.2⟩
end
section
open Go.RowKit Go.BigFrame
theorem xML (n : Int) (h : n < 0 ∨ 65536 < n) (w : World) : Calls Tryz.prog 93 #[.int .i64 n] w fun e w' => e = .returned (.tuple #[.pointer none, errV 1]) /\ w = w' := by
 by_cases h1 : n < 0
 ·have hd : decide (n < 0) = true := decide_eq_true h1
  clear h
  go_enter Tryz.func93, Tryz.ntmps93
  go_wp2
  go_ret2
  exact ⟨rfl, rfl⟩
 ·have hd : decide (n < 0) = false := decide_eq_false h1
  have hd2 : decide ((65536 : Int) < n) = true := decide_eq_true (by omega)
  clear h
  go_enter Tryz.func93, Tryz.ntmps93
  go_wp2
  go_ret2
  exact ⟨rfl, rfl⟩
theorem xO9 (n : Nat) : cnt (List.replicate n true) = n := by simp [cnt, List.countP_replicate]
def NewS (w : World) (fl : List Bool) (p : Value) (w' : World) : Prop := ∃ g r A c, p = .pointer (some ⟨g, 0, none⟩) /\ SAt w' g r A c fl (cnt fl) /\ g ≠ r /\ w.heap.size <= g /\ w.heap.size <= r /\ Below w.heap.size w w'
set_option maxHeartbeats 1000000 in
theorem xLQ (n : Nat) (hn : n <= 65536) (w : World) : Calls Tryz.prog 93 #[.int .i64 n] w fun e w' => ∃ p, e = .returned (.tuple #[p, .nilIface]) /\ NewS w (List.replicate n true) p w' := by
 have hd : decide ((n : Int) < 0) = false := decide_eq_false (by omega)
 have hd2 : decide ((65536 : Int) < (n : Int)) = false := decide_eq_false (by omega)
 have hbs : ∀ w : World, (Instr.buildSlice 23 1 #[(0, .bool true)]).run Tryz.prog w = .ok (.slice (some ⟨w.heap.size, 0, none⟩) 1 1) (w.alloc (.cells #[.bool true] 4)) := fun w => x1A (size := 1) Tryz.underlying23 (by kernel_rfl) (by omega) (by omega) rfl w
 have HR := kH (xH7 n w.heap.size hn (w.alloc (.cells #[.bool true] 4)) ((Blk.new w 4 #[.bool true]).cell 0) (by simp))
 go_enter Tryz.func93, Tryz.ntmps93
 go_wp2_with fail
 refine HR.out.mono ?_
 rintro e w' ⟨r, rfl, hr, hB, hb⟩
 simp only [World.size_alloc] at hr hb
 have H := kH (kA hr (kA hB hb))
 clear hr hB hb
 go_wp2
 go_ret2
 obtain ⟨hr, hB, hb⟩ := H.out
 have hs := hb.size
 have hlt := hB.lt
 refine ⟨_, rfl, w'.heap.size, r, some ⟨r, 0, none⟩, n, rfl, ⟨?_, by simp, by simpa using hn, ?_⟩, by omega, by omega, by omega, ?_⟩
 ·rw [xO9, List.length_replicate]
  exact Blk.new _ _ _
 ·refine .inr ⟨rfl, _, hB.alloc _, fun j v hj => ?_⟩
  rw [List.getElem?_replicate] at hj
  split at hj
  ·injection hj with hj
   subst hj
   simp [*]
  ·cases hj
 ·have h1 : Below w.heap.size w (w.alloc (.cells #[.bool true] 4)) := (Below.refl _ _).alloc (Nat.le_refl _) _
  exact (h1.trans (hb.mono (by omega))).alloc (by omega) _
theorem xHI (l : List Bool) : ∀ u ∈ flagsS l, u.oneCell' = true := by
 intro u hu
 obtain ⟨b, _, rfl⟩ := List.mem_map.1 hu
 rfl
set_option maxHeartbeats 1000000 in
theorem xD3 {w : World} {B c : Nat} {A : Option Addr} {fl : List Bool} (hl : fl.length <= 65536) (hR : Reads w B 1 A fl.length (flagsS fl)) (hB : B <= w.heap.size) :
    Calls Tryz.prog 151 #[.slice A fl.length c] w fun e w' => ∃ v, e = .returned v /\ w'.ownsRow w.heap.size 4 1 v fl.length (flagsS fl) /\ Below w.heap.size w w' := by
  have qT : ∀ (w : World) (a : Option Addr) (n c n' c' : Nat), (binOp .eql 23 (.slice a n c) (.slice none n' c')).run Tryz.prog w = .ok (.bool a.isNone) w := fun w a n c n' c' => Lib.run_eql_slice_nil w _ _ a n c n' c' Tryz.underlying23
  rcases A with _ | ad
  · have h0 : fl = [] := by
      rcases Nat.eq_zero_or_pos fl.length with h | h
      · exact List.eq_nil_of_length_eq_zero h
      · obtain ⟨ad, e, _⟩ := hR.2 h
        cases e
    subst h0
    go_enter Tryz.func151, Tryz.ntmps151
    go_wp2
    go_ret
    exact ⟨_, rfl, World.ownsRow_nil w _ _ 1, Below.refl _ _⟩
  · have HR := kH hR
    have hbs : ∀ w : World, (Instr.buildSlice 23 0 #[]).run Tryz.prog w = .ok (.slice (some ⟨w.heap.size, 0, none⟩) 0 0) (w.alloc (.cells #[] 4)) := fun w => by kernel_rfl
    have hown : (w.alloc (.cells #[] 4)).ownsRow w.heap.size 4 1 (.slice (some ⟨w.heap.size, 0, none⟩) 0 0) 0 [] := World.ownsRow_lit w #[] 0 (Nat.le_refl _) (by simp [maxLen]) rfl
    have HO := kH hown
    have HB := kH (Below.alloc (Below.refl w.heap.size w) (Nat.le_refl _) (.cells #[] 4))
    obtain ⟨i0, hi0, hz0, hz1, hz2⟩ := info_parts xBG
    clear hR hown
    go_enter Tryz.func151, Tryz.ntmps151
    go_wp2_with (refine x0X _ rfl (.tmp 5) (.tmp 6) _ rfl w.heap.size 4 i0 _ 1 1 Tryz.underlying23 hi0 hz0 hz1 hz2 rfl (by omega) (.slice (some ⟨w.heap.size, 0, none⟩) 0 0) 0 [] rfl HO.out B (some ad) fl.length c (flagsS fl) rfl (HR.out.alloc hB _) (xHI _) (by simp [maxLen]; omega) (by omega) (by simp) ?_; intro v2 w2 h2 g2 a2)
    have hb2 : Below w.heap.size w w2 := HB.out.grown g2 (by simp) (fun j hj => by simp [Value.ownBlock] at hj; omega)
    have H2 := kH (kA h2 hb2)
    clear h2 hb2 g2 a2
    go_wp2
    go_ret
    have := H2.out.1
    simp only [Nat.zero_add, List.nil_append] at this
    exact ⟨v2, rfl, this, H2.out.2⟩
theorem xEU {w : World} {base c : Nat} {fl : List Bool} {v : Value} (h : w.ownsRow base 4 1 v fl.length (flagsS fl)) : ∃ A c r, v = .slice A fl.length c /\ fl.length <= c /\ FRow w r A fl /\ (fl ≠ [] -> base <= r /\ r < w.heap.size) := by
 rcases h.2 with ⟨rfl, h0⟩ | ⟨g, cap, cur, rfl, hb, hh, hn, hm, hs, ht⟩
 ·exact ⟨none, 0, 0, by rw [h0], by omega, .inl (List.eq_nil_of_length_eq_zero h0), fun hne => absurd (List.eq_nil_of_length_eq_zero h0) hne⟩
 ·refine ⟨_, cap, g, rfl, hn, .inr ⟨rfl, cur, hh, fun j v hj => ?_⟩, fun _ => ⟨hb, Blk.lt (t := 4) hh⟩⟩
  have h1 : (flagsS fl)[j]? = some (.bool v) := by simp [flagsS, hj]
  rw [<- ht, List.getElem?_take] at h1
  split at h1
  ·simpa using h1
  ·cases h1
set_option maxHeartbeats 1000000 in
theorem xJY {w : World} {g r c : Nat} {A : Option Addr} {fl : List Bool} (h : SAt w g r A c fl (cnt fl)) : Calls Tryz.prog 99 #[.pointer (some ⟨g, 0, none⟩)] w fun e w' => ∃ p, e = .returned p /\ NewS w fl p w' := by
  have q0 : w.cell? ⟨g, 0, none⟩ = some (.slice A fl.length c) := h.blk.cell 0
  have q1 : w.cell? ⟨g, 1, none⟩ = some (.int .i64 (cnt fl)) := h.blk.cell 1
  have hlim := h.lim
  have hgl := h.blk.lt
  have hrd : Reads w w.heap.size 1 A fl.length (flagsS fl) := by
    rcases h.row with e | ⟨_, cs, hb, _⟩
    · subst e; exact ⟨rfl, fun h => by simp at h⟩
    · exact h.row.reads.more hb.lt
  have HC := kH (fun wx (hx : ∃ q, wx = w.drewN q) => (show Calls Tryz.prog 151 #[.slice A fl.length c] wx fun e w' => ∃ A2 c2 r2, e = .returned (.slice A2 fl.length c2) /\ fl.length <= c2 /\ FRow w' r2 A2 fl /\ (fl ≠ [] -> w.heap.size <= r2 /\ r2 < w'.heap.size) /\ Below w.heap.size w w' from by
    obtain ⟨q, rfl⟩ := hx
    refine (xD3 (w := w.drewN q) hlim (hrd.drewN q) (Nat.le_refl _)).mono ?_
    rintro e w' ⟨v, rfl, ho, hb⟩
    obtain ⟨A2, c2, r2, rfl, h1, h2, h3⟩ := xEU (base := w.heap.size) (c := 0) ho
    exact ⟨A2, c2, r2, rfl, h1, h2, h3, hb.os, hb.tape, hb.output, hb.size, hb.block⟩))
  clear h hrd
  go_enter Tryz.func99, Tryz.ntmps99
  go_wp2
  go_region_with (go_at_call 151; refine (HC.out _ ⟨1, rfl⟩).mono ?_; rintro e w2 ⟨A2, c2, r2, rfl, ho1, ho2, ho3, hb⟩; obtain ⟨hc, hf⟩ : (∀ b o, b < w.heap.size -> w2.cell? ⟨b, o, none⟩ = w.cell? ⟨b, o, none⟩) /\ (∀ b o, b < w.heap.size -> w2.frozen? ⟨b, o, none⟩ = w.frozen? ⟨b, o, none⟩) := ⟨fun b o h => hb.cell (p := ⟨b, o, none⟩) h, fun b o h => hb.frozen (p := ⟨b, o, none⟩) h⟩)
  all_goals
    have HX := kH (kA ho1 (kA ho2 (kA ho3 hb)))
    clear ho1 ho2 ho3 hb hc hf
    go_wp2
    go_ret
    obtain ⟨h1, h2, h3, h4⟩ := HX.out
    have hz := h4.size
    refine ⟨_, rfl, ?_⟩
    rcases h2 with h2 | h2
    · exact ⟨w2.heap.size, w2.heap.size + 1, A2, c2, rfl, ⟨Blk.new _ _ _, h1, hlim, .inl h2⟩, by omega, by omega, by omega, h4.alloc (by omega) _⟩
    · have h5 : fl = [] ∨ (w.heap.size <= r2 /\ r2 < w2.heap.size) := by
        by_cases e : fl = []
        · exact .inl e
        · exact .inr (h3 e)
      rcases h5 with h5 | h5
      · exact ⟨w2.heap.size, w2.heap.size + 1, A2, c2, rfl, ⟨Blk.new _ _ _, h1, hlim, .inl h5⟩, by omega, by omega, by omega, h4.alloc (by omega) _⟩
      · exact ⟨w2.heap.size, r2, A2, c2, rfl, ⟨Blk.new _ _ _, h1, hlim, .inr ⟨h2.1, h2.2.choose, h2.2.choose_spec.1.alloc _, h2.2.choose_spec.2⟩⟩, by omega, by omega, by omega, h4.alloc (by omega) _⟩
theorem x93 {w : World} {g r c B : Nat} {A : Option Addr} {fl : List Bool} (es : List (Int × Int)) (hI : ∀ e ∈ es, InI e) (h : SAt w g r A c fl (cnt fl)) (hgr : g ≠ r) (E : Option Addr) (c' : Nat) (hc' : es.length <= c') (hR : ExtR w B E es) (hB : B <= w.heap.size)
  (hfar : ∀ ad, E = some ad -> ad.block ≠ g /\ ad.block ≠ r) (hle : es.length <= 65536) :
  Calls Tryz.prog 221 #[.pointer (some ⟨g, 0, none⟩), .slice E es.length c'] w (TurnTo w g r c A fl es false) := by
 have HC := kH (xAN es false hI h hgr E c' hc' hR hB hfar hle)
 clear hI h hR hfar
 go_enter Tryz.func221, Tryz.ntmps221
 go_wp2_with fail
 refine HC.out.mono ?_
 rintro e w' ⟨ho, ⟨ns, h1, rfl, h2⟩ | ⟨h1, rfl, h2⟩⟩
 ·have HX := kH (kA ho (kA h1 h2))
  clear ho h1 h2
  go_wp2
  go_ret
  exact ⟨HX.out.1, .inl ⟨ns, HX.out.2.1, rfl, HX.out.2.2⟩⟩
 ·have HX := kH (kA ho (kA h1 h2))
  clear ho h1 h2
  go_wp2
  go_ret
  exact ⟨HX.out.1, .inr ⟨HX.out.2.1, rfl, HX.out.2.2⟩⟩
theorem xBB {w : World} {g r c B : Nat} {A : Option Addr} {fl : List Bool} (es : List (Int × Int)) (hI : ∀ e ∈ es, InI e) (h : SAt w g r A c fl (cnt fl)) (hgr : g ≠ r) (E : Option Addr) (c' : Nat) (hc' : es.length <= c') (hR : ExtR w B E es) (hB : B <= w.heap.size)
  (hfar : ∀ ad, E = some ad -> ad.block ≠ g /\ ad.block ≠ r) (hle : es.length <= 65536) :
  Calls Tryz.prog 174 #[.pointer (some ⟨g, 0, none⟩), .slice E es.length c'] w (TurnTo w g r c A fl es true) := by
 have HC := kH (xAN es true hI h hgr E c' hc' hR hB hfar hle)
 clear hI h hR hfar
 go_enter Tryz.func174, Tryz.ntmps174
 go_wp2_with fail
 refine HC.out.mono ?_
 rintro e w' ⟨ho, ⟨ns, h1, rfl, h2⟩ | ⟨h1, rfl, h2⟩⟩
 ·have HX := kH (kA ho (kA h1 h2))
  clear ho h1 h2
  go_wp2
  go_ret
  exact ⟨HX.out.1, .inl ⟨ns, HX.out.2.1, rfl, HX.out.2.2⟩⟩
 ·have HX := kH (kA ho (kA h1 h2))
  clear ho h1 h2
  go_wp2
  go_ret
  exact ⟨HX.out.1, .inr ⟨HX.out.2.1, rfl, HX.out.2.2⟩⟩
end
section
open Go.RowKit Go.BigFrame
def cmpI (a b : Int) : Int := if a < b then -1 else if b < a then 1 else 0
theorem xA0 (a : Int) (w : World) : Calls Tryz.prog 287 #[.int .i64 a] w fun e w' => e = .returned (.bool false) /\ w' = w := by
 go_enter Tryz.func287, Tryz.ntmps287
 go_wp2
 go_ret
 simp
theorem x7I (a b : Int) (w : World) : Calls Tryz.prog 279 #[.int .i64 a, .int .i64 b] w fun e w' => e = .returned (.int .i64 (cmpI a b)) /\ w' = w := by
 by_cases h1 : a < b
 ·have hd1 : decide (a < b) = true := decide_eq_true h1
  have hc : cmpI a b = -1 := if_pos h1
  rw [hc]
  go_enter Tryz.func279, Tryz.ntmps279
  go_wp2_with (first | (go_at_call 287; refine (xA0 _ _).mono ?_; rintro e w' ⟨rfl, rfl⟩))
  go_ret
  exact ⟨rfl, rfl⟩
 ·have hd1 : decide (a < b) = false := decide_eq_false h1
  by_cases h2 : b < a
  ·have hd2 : decide (b < a) = true := decide_eq_true h2
   have hc : cmpI a b = 1 := by rw [cmpI, if_neg h1, if_pos h2]
   rw [hc]
   go_enter Tryz.func279, Tryz.ntmps279
   go_wp2_with (first | (go_at_call 287; refine (xA0 _ _).mono ?_; rintro e w' ⟨rfl, rfl⟩))
   go_ret
   exact ⟨rfl, rfl⟩
  ·have hd2 : decide (b < a) = false := decide_eq_false h2
   have hc : cmpI a b = 0 := by rw [cmpI, if_neg h1, if_neg h2]
   rw [hc]
   go_enter Tryz.func279, Tryz.ntmps279
   go_wp2_with (first | (go_at_call 287; refine (xA0 _ _).mono ?_; rintro e w' ⟨rfl, rfl⟩))
   go_ret
   exact ⟨rfl, rfl⟩
def orI (a b : Int) : Int := if a = 0 then b else a
theorem xI2 (a b : Int) (g : Nat) (w : World) (h0 : w.cell? ⟨g, 0, none⟩ = some (.int .i64 a)) (h1 : w.cell? ⟨g, 1, none⟩ = some (.int .i64 b)) : Calls Tryz.prog 278 #[.slice (some ⟨g, 0, none⟩) 2 2] w fun e w' => e = .returned (.int .i64 (orI a b)) /\ w' = w := by
 by_cases ha : a = 0
 ·subst ha
  by_cases hb : b = 0
  ·subst hb
   go_enter Tryz.func278, Tryz.ntmps278
   go_wp2
   go_rounds 3
   go_ret
   exact ⟨rfl, rfl⟩
  ·have hd : (b == 0) = false := by simpa using hb
   have hd2 : (b != 0) = true := by simpa using hb
   go_enter Tryz.func278, Tryz.ntmps278
   go_wp2
   go_rounds 2
   go_ret
   exact ⟨rfl, rfl⟩
 ·have hd : (a == 0) = false := by simpa using ha
  have hd2 : (a != 0) = true := by simpa using ha
  rw [show orI a b = a from if_neg ha]
  go_enter Tryz.func278, Tryz.ntmps278
  go_wp2
  go_rounds 1
  go_ret
  exact ⟨rfl, rfl⟩
end
section
open Go.RowKit Go.BigFrame
def ERow (w : World) (r : Nat) (xs : List (Nat × Nat)) : Prop := ∃ cs : Array Value, Blk w r 198 cs /\ ∀ (k : Nat) (e : Nat × Nat), xs[k]? = some e -> cs[k * 2]? = some (.int .i64 (e.1 : Int)) /\ cs[k * 2 + 1]? = some (.int .i64 (e.2 : Int))
section
variable {w w' : World} {r : Nat} {xs : List (Nat × Nat)}
theorem ERow.get (h : ERow w r xs) {k : Nat} {e : Nat × Nat} (hk : xs[k]? = some e) : w.cell? ⟨r, k * 2, none⟩ = some (.int .i64 (e.1 : Int)) /\ w.cell? ⟨r, k * 2 + 1, none⟩ = some (.int .i64 (e.2 : Int)) /\ w.frozen? ⟨r, k * 2, none⟩ = false /\ w.frozen? ⟨r, k * 2 + 1, none⟩ = false := by
 obtain ⟨cs, hb, hc⟩ := h
 obtain ⟨h1, h2⟩ := hc k e hk
 exact ⟨(hb.cell _).trans h1, (hb.cell _).trans h2, hb.frozen _, hb.frozen _⟩
theorem ERow.of (h : ERow w r xs) (e : w'.heap[r]? = w.heap[r]?) : ERow w' r xs := ⟨h.choose, h.choose_spec.1.of e, h.choose_spec.2⟩
theorem ERow.lt (h : ERow w r xs) : r < w.heap.size := h.choose_spec.1.lt
end
def lgB (e q : Nat × Nat) : Bool := decide (orI (cmpI (q.2 : Int) (e.2 : Int)) (cmpI (e.1 : Int) (q.1 : Int)) < 0)
theorem x7J (e q : Nat × Nat) : lgB e q = true ↔ Longer e q := by
 simp only [lgB, decide_eq_true_eq, orI, cmpI, Longer]
 by_cases h1 : (q.2 : Int) < (e.2 : Int)
 ·simp only [h1, if_true]; simp; omega
 ·by_cases h2 : (e.2 : Int) < (q.2 : Int)
  ·simp only [h1, h2, if_true, if_false]; simp; omega
  ·simp only [h1, h2, if_false, if_true]
   by_cases h3 : (e.1 : Int) < (q.1 : Int)
   ·simp only [h3, if_true]; simp; omega
   ·by_cases h4 : (q.1 : Int) < (e.1 : Int)
    ·simp only [h3, h4, if_true, if_false]; simp; omega
    ·simp only [h3, h4, if_false]; simp; omega
set_option maxHeartbeats 2000000 in
theorem xN9 {w : World} {r n c i j : Nat} {xs : List (Nat × Nat)} (h : ERow w r xs) (e q : Nat × Nat) (hi : xs[i]? = some e) (hj : xs[j]? = some q) (hin : i < n) (hjn : j < n) (hn : n <= 1000000) :
  Calls Tryz.prog 307 #[.slice (some ⟨r, 0, none⟩) n c, .int .i64 i, .int .i64 j] w fun e' w' => e' = .returned (.bool (lgB e q)) /\ Below w.heap.size w w' := by
 obtain ⟨a0, a1, -, -⟩ := h.get hi
 obtain ⟨b0, b1, -, -⟩ := h.get hj
 clear h hi hj
 go_enter Tryz.func307, Tryz.ntmps307
 go_wp2_with fail
 refine wp_region_still_tail 22 (by kernel_rfl) (by kernel_rfl) ?_
 simp only [List.take_succ_cons, List.take_zero, List.drop_succ_cons, List.drop_zero]
 repeat still_step
 still_call (x7I _ _ _)
 repeat still_step
 still_call (x7I _ _ _)
 repeat still_step
 refine wpStill_nil ?_
 change wpList _ _ _ _ _ w.drew
 have hb : Below w.heap.size w w.drew := (Below.refl _ _).drew
 have HL : Hid (lgB e q = decide (orI (cmpI (q.2 : Int) (e.2 : Int)) (cmpI (e.1 : Int) (q.1 : Int)) < 0)) := kH rfl
 generalize cmpI (q.2 : Int) (e.2 : Int) = ca at *
 generalize cmpI (e.1 : Int) (q.1 : Int) = cb at *
 generalize w.drew = w2 at *
 clear a0 a1 b0 b1
 have HO := kH (xI2 ca cb w2.heap.size (w2.alloc (.cells #[.int .i64 ca, .int .i64 cb] 3)) ((Blk.new w2 3 #[.int .i64 ca, .int .i64 cb]).cell 0) ((Blk.new w2 3 #[.int .i64 ca, .int .i64 cb]).cell 1))
 have HB := kH (hb.alloc hb.size (.cells #[.int .i64 ca, .int .i64 cb] 3))
 clear hb
 go_wp2_with fail
 refine HO.out.mono ?_
 rintro e3 w3 ⟨rfl, rfl⟩
 go_wp2
 go_ret
 rw [HL.out]
 exact ⟨rfl, HB.out⟩
end
section
open Go.RowKit Go.BigFrame
def swapL (xs : List (Nat × Nat)) (i j : Nat) : List (Nat × Nat) := (xs.set i (xs.getD j (0, 0))).set j (xs.getD i (0, 0))
theorem ERow.sets {w : World} {r : Nat} {xs : List (Nat × Nat)} (h : ERow w r xs) {i : Nat} (hi : i < xs.length) (e : Nat × Nat) : ERow ((w.setCell ⟨r, i * 2, none⟩ (.int .i64 (e.1 : Int))).setCell ⟨r, i * 2 + 1, none⟩ (.int .i64 (e.2 : Int))) r (xs.set i e) := by
 obtain ⟨cs, hb, hc⟩ := h
 refine ⟨_, (hb.set_ (i * 2) _).set_ (i * 2 + 1) _, fun k q hk => ?_⟩
 have h0 := hc i _ (List.getElem?_eq_getElem hi)
 have l0 := (Array.getElem?_eq_some_iff.1 h0.1).1
 have l1 := (Array.getElem?_eq_some_iff.1 h0.2).1
 rw [List.getElem?_set] at hk
 simp only [Array.getElem?_setIfInBounds, Array.size_setIfInBounds]
 by_cases he : i = k
 ·subst he
  rw [if_pos rfl, if_pos hi] at hk
  injection hk with hk
  subst hk
  constructor
  ·rw [if_neg (by omega), if_pos rfl, if_pos l0]
  ·rw [if_pos rfl, if_pos l1]
 ·rw [if_neg he] at hk
  have := hc k q hk
  constructor
  ·rw [if_neg (by omega), if_neg (by omega)]; exact this.1
  ·rw [if_neg (by omega), if_neg (by omega)]; exact this.2
set_option maxHeartbeats 2000000 in
theorem xL6 {w : World} {r n c i j : Nat} {xs : List (Nat × Nat)} (h : ERow w r xs) (hij : i ≠ j) (hi : i < xs.length) (hj : j < xs.length) (hn : xs.length <= n) (hn2 : n <= 1000000) :
  Calls Tryz.prog 308 #[.slice (some ⟨r, 0, none⟩) n c, .int .i64 i, .int .i64 j] w fun e' w' => e' = .returned (.tuple #[]) /\ ERow w' r (swapL xs i j) /\ Only [r] w w' /\ w'.heap.size = w.heap.size := by
 obtain ⟨e, he⟩ : ∃ e, xs[i]? = some e := ⟨_, List.getElem?_eq_getElem hi⟩
 obtain ⟨q, hq⟩ : ∃ q, xs[j]? = some q := ⟨_, List.getElem?_eq_getElem hj⟩
 obtain ⟨a0, a1, a2, a3⟩ := h.get he
 obtain ⟨b0, b1, b2, b3⟩ := h.get hq
 have H := kH h
 have HS : Hid (swapL xs i j = (xs.set i q).set j e) := kH (by simp only [swapL, List.getD_eq_getElem?_getD, he, hq, Option.getD_some])
 clear h he hq
 go_enter Tryz.func308, Tryz.ntmps308
 go_wp2
 go_region
 all_goals go_wp2
 all_goals
  refine bodyPost_end (results_none rfl _ _ _) rfl ?_
  rw [HS.out]
  refine ⟨rfl, ?_, ?_, ?_⟩
  ·have h1 := H.out.sets hi q
   exact (h1.sets (i := j) (by simpa using hj) e).of rfl
  ·exact (((((Only.refl [r] w).setCell (.inl (by simp)) _).setCell (.inl (by simp)) _).setCell (.inl (by simp)) _).setCell (.inl (by simp)) _).drew
  ·simp [World.setCell]
set_option maxHeartbeats 2000000 in
theorem xK5 {w : World} {r n c i : Nat} {xs : List (Nat × Nat)} (h : ERow w r xs) (hi : i < xs.length) (hn : xs.length <= n) (hn2 : n <= 1000000) :
  Calls Tryz.prog 308 #[.slice (some ⟨r, 0, none⟩) n c, .int .i64 i, .int .i64 i] w fun e' w' => e' = .returned (.tuple #[]) /\ ERow w' r xs /\ Only [r] w w' /\ w'.heap.size = w.heap.size := by
 obtain ⟨e, he⟩ : ∃ e, xs[i]? = some e := ⟨_, List.getElem?_eq_getElem hi⟩
 obtain ⟨a0, a1, a2, a3⟩ := h.get he
 have H := kH h
 have HS : Hid (xs = (xs.set i e).set i e) := kH (by
  rw [List.set_set]
  apply List.ext_getElem?
  intro k
  rw [List.getElem?_set]
  by_cases hk : i = k
  ·subst hk; rw [if_pos rfl, if_pos hi, he]
  ·rw [if_neg hk])
 clear h he
 go_enter Tryz.func308, Tryz.ntmps308
 go_wp2
 go_region
 all_goals go_wp2
 all_goals
  refine bodyPost_end (results_none rfl _ _ _) rfl ?_
  refine ⟨rfl, ?_, ?_, ?_⟩
  ·have h1 := H.out.sets hi e
   have h2 := (h1.sets (i := i) (by simpa using hi) e)
   rw [<- HS.out] at h2
   exact h2.of rfl
  ·exact (((((Only.refl [r] w).setCell (.inl (by simp)) _).setCell (.inl (by simp)) _).setCell (.inl (by simp)) _).setCell (.inl (by simp)) _).drew
  ·simp [World.setCell]
structure HAt (w : World) (hb r c : Nat) (xs : List (Nat × Nat)) : Prop where
 box : Blk w hb 320 #[.slice (some ⟨r, 0, none⟩) xs.length c]
 row : ERow w r xs
 cap : xs.length <= c
 lim : xs.length <= 65536
theorem HAt.ne {w : World} {hb r c : Nat} {xs : List (Nat × Nat)} (h : HAt w hb r c xs) : hb ≠ r := h.box.ne_ h.row.choose_spec.1 (by decide)
theorem ERow.take {w : World} {r : Nat} {xs : List (Nat × Nat)} (h : ERow w r xs) (k : Nat) : ERow w r (xs.take k) :=
 ⟨h.choose, h.choose_spec.1, fun j e hj => h.choose_spec.2 j e (by
  rw [List.getElem?_take] at hj
  split at hj
  ·exact hj
  ·cases hj)⟩
theorem xDK (n c : Nat) (A : Option Addr) (w : World) : Calls Tryz.prog 306 #[.slice A n c] w fun e w' => e = .returned (.int .i64 n) /\ w' = w := by
 go_enter Tryz.func306, Tryz.ntmps306
 go_wp2
 go_ret
 exact ⟨rfl, rfl⟩
theorem xBQ (A : Option Addr) (n c i : Nat) (h : i <= c) (w : World) : (Instr.slice 320 (.slice A n c) none (some (.int .i64 (i : Int))) none).run Tryz.prog w = .ok (.slice (if c = 0 then A else A.map (·.add 0)) i c) w := by
 have hsz : ∀ w, (sizeOf (Tryz.prog.elem 320)).run Tryz.prog w = .ok 2 w := fun w => by kernel_rfl
 rw [run_slice_h w 320 A n c (by kernel_rfl) .i64 (i : Int) (by omega) (by omega), hsz]
 simp [Result.andThen, sliced]
set_option maxHeartbeats 2000000 in
theorem xLM {w : World} {hb r c : Nat} {xs : List (Nat × Nat)} {e : Nat × Nat} (h : HAt w hb r c (xs ++ [e])) :
  Calls Tryz.prog 309 #[.pointer (some ⟨hb, 0, none⟩)] w fun e' w' => e' = .returned (.iface 198 (.agg #[.int .i64 (e.1 : Int), .int .i64 (e.2 : Int)])) /\ HAt w' hb r c xs /\ Only [hb] w w' := by
 have H := kH h
 have hc := h.cap
 have hlim := h.lim
 have hne := h.ne
 have q0 : w.cell? ⟨hb, 0, none⟩ = some (.slice (some ⟨r, 0, none⟩) (xs.length + 1) c) := by have := h.box.cell 0; simpa using this
 have q1 : w.frozen? ⟨hb, 0, none⟩ = false := h.box.frozen 0
 have q2 : ∀ o, (w.alloc o).cell? ⟨hb, 0, none⟩ = some (.slice (some ⟨r, 0, none⟩) (xs.length + 1) c) := fun o => (World.cell?_alloc_lt w o _ h.box.lt).trans q0
 have q3 : ∀ o, (w.alloc o).frozen? ⟨hb, 0, none⟩ = false := fun o => (h.box.alloc o).frozen 0
 have hbl := h.box.lt
 obtain ⟨a0, a1, -, -⟩ := h.row.get (k := xs.length) (e := e) (by simp)
 have hsl := fun (w : World) => xBQ (some ⟨r, 0, none⟩) (xs.length + 1) c xs.length (by simp at hc; omega) w
 have hadd : (if c = 0 then some (⟨r, 0, none⟩ : Addr) else Option.map (fun x => Addr.add x 0) (some ⟨r, 0, none⟩)) = some ⟨r, 0, none⟩ := by split <;> simp [Addr.add]
 rw [hadd] at hsl
 simp only [List.length_append, List.length_singleton] at hc hlim
 have hnw : hb ≠ w.heap.size := by omega
 clear h hadd
 go_enter Tryz.func309, Tryz.ntmps309
 go_wp2
 go_ret
 have h := H.out
 refine ⟨rfl, ⟨(h.box.set_ 0 _).alloc _, ?_, by omega, by omega⟩, ((Only.refl [hb] w).setCell (.inl (by simp)) _).alloc _⟩
 have h1 := (h.row.take xs.length)
 rw [List.take_left' rfl] at h1
 have h2 : ERow (w.setCell ⟨hb, 0, none⟩ (.slice (some ⟨r, 0, none⟩) xs.length c)) r xs := h1.of (Below.heap_setCell _ _ _ _ (by show r ≠ hb; exact fun e => hne e.symm))
 exact h2.of (Below.heap_alloc _ _ _ h2.lt)
end
section
def gx (xs : List (Nat × Nat)) (i : Nat) : Nat × Nat := xs.getD i (0, 0)
theorem x0Q {xs : List (Nat × Nat)} {i : Nat} (h : i < xs.length) : xs[i]? = some (gx xs i) := by
  simp [gx, List.getD_eq_getElem?_getD, List.getElem?_eq_getElem h]
theorem x5H {xs : List (Nat × Nat)} {i : Nat} {e : Nat × Nat} (h : xs[i]? = some e) : gx xs i = e := by
  simp [gx, List.getD_eq_getElem?_getD, h]
theorem xJ5 (xs : List (Nat × Nat)) (i j : Nat) : (swapL xs i j).length = xs.length := by simp [swapL]
theorem x3W {xs : List (Nat × Nat)} {i j : Nat} (hi : i < xs.length) (hj : j < xs.length) (k : Nat) : gx (swapL xs i j) k = if k = j then gx xs i else if k = i then gx xs j else gx xs k := by
 by_cases h1 : k = j
 ·subst h1
  rw [if_pos rfl]
  refine x5H ?_
  simp only [swapL]
  rw [List.getElem?_set, if_pos rfl, if_pos (by simpa using hj)]
  rfl
 ·rw [if_neg h1]
  by_cases h2 : k = i
  ·subst h2
   rw [if_pos rfl]
   refine x5H ?_
   simp only [swapL]
   rw [List.getElem?_set, if_neg (fun h => h1 h.symm), List.getElem?_set, if_pos rfl, if_pos hi]
   rfl
  ·rw [if_neg h2]
   simp only [gx, swapL, List.getD_eq_getElem?_getD]
   rw [List.getElem?_set, if_neg (fun h => h1 h.symm), List.getElem?_set, if_neg (fun h => h2 h.symm)]
theorem x3T {xs : List (Nat × Nat)} {i j : Nat} (hi : i < xs.length) (hj : j < xs.length) : (swapL xs i j).Perm xs := by
 have := List.set_set_perm hi hj
 simp only [swapL, List.getD_eq_getElem?_getD, List.getElem?_eq_getElem hi, List.getElem?_eq_getElem hj, Option.getD_some]
 exact this
def Kid (i j : Nat) : Prop := j = 2 * i + 1 ∨ j = 2 * i + 2
theorem x5X {a b c : Nat × Nat} (h1 : ¬ Longer b a) (h2 : ¬ Longer c b) : ¬ Longer c a := by
  simp only [Longer] at *; omega
theorem x6W {a b : Nat × Nat} (h : Longer a b) : ¬ Longer b a := by
  simp only [Longer] at *; omega
def HFrom (xs : List (Nat × Nat)) (n k : Nat) : Prop := ∀ i j, Kid i j -> k <= i -> j < n -> ¬ Longer (gx xs j) (gx xs i)
def HBut (xs : List (Nat × Nat)) (n i0 k : Nat) : Prop :=
  (∀ i j, Kid i j -> i0 <= i -> j < n -> i ≠ k -> ¬ Longer (gx xs j) (gx xs i)) /\ (∀ p j, Kid p k -> Kid k j -> i0 <= p -> j < n -> ¬ Longer (gx xs j) (gx xs p))
theorem HFrom.but {xs : List (Nat × Nat)} {n i0 : Nat} (h : HFrom xs n (i0 + 1)) : HBut xs n i0 i0 :=
  ⟨fun i j hk hi hj hne => h i j hk (by omega) hj, fun p j hp _ hi _ => by simp only [Kid] at hp; omega⟩
theorem HFrom.half (xs : List (Nat × Nat)) (n : Nat) : HFrom xs n (n / 2) := by
 intro i j hk hi hj
 simp only [Kid] at hk
 omega
theorem HBut.done {xs : List (Nat × Nat)} {n i0 k : Nat} (h : HBut xs n i0 k) (hk : ∀ j, Kid k j -> j < n -> ¬ Longer (gx xs j) (gx xs k)) : HFrom xs n i0 := by
 intro i j hij hi hj
 by_cases he : i = k
 ·subst he; exact hk j hij hj
 ·exact h.1 i j hij hi hj he
theorem HBut.step {xs : List (Nat × Nat)} {n i0 k j : Nat} (h : HBut xs n i0 k) (hn : n <= xs.length) (hkj : Kid k j) (hj : j < n) (hk : i0 <= k) (hl : Longer (gx xs j) (gx xs k)) (hb : ∀ j', Kid k j' -> j' < n -> ¬ Longer (gx xs j') (gx xs j)) : HBut (swapL xs k j) n i0 j := by
 have hlt : k < j := by simp only [Kid] at hkj; omega
 have G := x3W (xs := xs) (i := k) (j := j) (by omega) (by omega)
 constructor
 ·intro i m him hi hm hne
  rw [G m, G i, if_neg hne]
  by_cases h1 : i = k
  ·subst h1
   rw [if_pos rfl]
   by_cases h2 : m = j
   ·rw [if_pos h2]; exact x6W hl
   ·rw [if_neg h2, if_neg (by simp only [Kid] at him; omega)]
    exact hb m him hm
  ·rw [if_neg h1]
   by_cases h2 : m = j
   ·simp only [Kid] at him hkj; omega
   ·rw [if_neg h2]
    by_cases h3 : m = k
    ·subst h3
     rw [if_pos rfl]
     exact h.2 i j him hkj hi hj
    ·rw [if_neg h3]
     exact h.1 i m him hi hm h1
 ·intro p m hp hm hip hmn
  have hpk : p = k := by simp only [Kid] at hp hkj; omega
  subst hpk
  have hmj : m ≠ j := by simp only [Kid] at hm; omega
  have hmp : m ≠ p := by simp only [Kid] at hm; omega
  rw [G m, if_neg hmj, if_neg hmp, G p, if_neg (by omega), if_pos rfl]
  exact h.1 j m hm (by omega) hmn (by omega)
theorem HFrom.top {xs : List (Nat × Nat)} {n : Nat} (h : HFrom xs n 0) : ∀ j, j < n -> ¬ Longer (gx xs j) (gx xs 0) := by
 intro j
 induction j using Nat.strongRecOn with
 | _ j ih =>
  intro hj
  by_cases h0 : j = 0
  ·subst h0; simp [Longer]
  ·have hk : Kid ((j - 1) / 2) j := by simp only [Kid]; omega
   exact x5X (ih ((j - 1) / 2) (by omega) (by omega)) (h _ _ hk (by omega) hj)
theorem HFrom.is_top {xs : List (Nat × Nat)} (h : HFrom xs xs.length 0) (h0 : 0 < xs.length) : Top xs (gx xs 0) := by
 refine ⟨List.mem_of_getElem? (x0Q h0), fun q hq => ?_⟩
 obtain ⟨j, hj, rfl⟩ := List.mem_iff_getElem.1 hq
 have := h.top j hj
 rw [x5H (List.getElem?_eq_getElem hj)] at this
 by_cases he : xs[j] = gx xs 0
 ·exact .inl he
 ·right
  have hne : ¬ (xs[j].1 = (gx xs 0).1 /\ xs[j].2 = (gx xs 0).2) := fun h => he (Prod.ext h.1 h.2)
  simp only [Longer] at *
  omega
theorem HFrom.last {xs : List (Nat × Nat)} {n : Nat} (h : HFrom xs (n + 1) 0) (hn : xs.length = n + 1) : HFrom (swapL xs 0 n) n 1 := by
 have G := x3W (xs := xs) (i := 0) (j := n) (by omega) (by omega)
 intro i j hk hi hj
 have hij : i < j := by simp only [Kid] at hk; omega
 rw [G j, G i, if_neg (by omega), if_neg (by omega), if_neg (by omega), if_neg (by omega)]
 exact h i j hk (by omega) (by omega)
theorem HFrom.prefix_ {xs : List (Nat × Nat)} {e : Nat × Nat} (h : HFrom (xs ++ [e]) xs.length 0) : HFrom xs xs.length 0 := by
 intro i j hk hi hj
 have hij : i < j := by simp only [Kid] at hk; omega
 have := h i j hk hi hj
 have hg : ∀ k, k < xs.length -> gx (xs ++ [e]) k = gx xs k := fun k hk => x5H (by rw [List.getElem?_append_left hk]; exact x0Q hk)
 rw [hg j hj, hg i (by omega)] at this
 exact this
end
section
open Go.RowKit Go.BigFrame
theorem x6L (w : World) (g : Nat) (A : Option Addr) (n c : Nat) (h : w.cell? ⟨g, 0, none⟩ = some (.slice A n c)) : (loadVar 320 ⟨g, 0, none⟩).run Tryz.prog w = .ok (.slice A n c) w := by
  simp [loadVar, h]
theorem xMV (w : World) (f : Nat) (g : Nat) : (method (f + 1) 322 (.pointer (some ⟨g, 0, none⟩)) "Pop").run Tryz.prog w = .ok (309, .pointer (some ⟨g, 0, none⟩)) w := by
  kernel_rfl
theorem xO1 (w : World) (g : Nat) (s : String) : (Builtin.ssaWrapNilChk_ #[322] 322 #[.pointer (some ⟨g, 0, none⟩), strVal "", strVal s]).run Tryz.prog w = .ok (.pointer (some ⟨g, 0, none⟩)) w := by
  kernel_rfl
theorem xAI (w : World) (f g : Nat) (v : Value) (s : String) (k : FuncId) (hv : (loadVar 320 ⟨g, 0, none⟩).run Tryz.prog w = .ok v w)
  (hm : ((Tryz.prog.info? 322).bind fun i => (i.methods.find? fun m => m.name == s).map fun m => (m.path, m.func)) = some (#[], some (k, false))) :
  (method (f + 1) 322 (.pointer (some ⟨g, 0, none⟩)) s).run Tryz.prog w = .ok (k, v) w := by
 have hu : Tryz.prog.underlying 322 = some (.pointer 320) := by kernel_rfl
 cases hi : Tryz.prog.info? 322 with
 | none => rw [hi] at hm; cases hm
 | some i =>
  rw [hi] at hm
  simp only [Option.bind_some] at hm
  cases h1 : i.methods.find? fun m => m.name == s with
  | none => rw [h1] at hm; cases hm
  | some m =>
   rw [h1] at hm
   simp only [Option.map_some, Option.some.injEq, Prod.mk.injEq] at hm
   obtain ⟨h2, h3⟩ := hm
   unfold method
   simp [typeInfo, hi, h1, h2, h3, follow, receiverAt, run_underlying hu, Place.get, xO1, asAddr, hv]
theorem x4B (w : World) (f g n c : Nat) (A : Option Addr) (h : w.cell? ⟨g, 0, none⟩ = some (.slice A n c)) : (method (f + 1) 322 (.pointer (some ⟨g, 0, none⟩)) "Less").run Tryz.prog w = .ok (307, .slice A n c) w :=
  xAI w f g _ _ _ (x6L w g A n c h) (by kernel_rfl)
theorem x4E (w : World) (f g n c : Nat) (A : Option Addr) (h : w.cell? ⟨g, 0, none⟩ = some (.slice A n c)) : (method (f + 1) 322 (.pointer (some ⟨g, 0, none⟩)) "Swap").run Tryz.prog w = .ok (308, .slice A n c) w :=
  xAI w f g _ _ _ (x6L w g A n c h) (by kernel_rfl)
theorem xDM (w : World) (f g n c : Nat) (A : Option Addr) (h : w.cell? ⟨g, 0, none⟩ = some (.slice A n c)) : (method (f + 1) 322 (.pointer (some ⟨g, 0, none⟩)) "Len").run Tryz.prog w = .ok (306, .slice A n c) w :=
  xAI w f g _ _ _ (x6L w g A n c h) (by kernel_rfl)
theorem HAt.of {w w' : World} {hb r c : Nat} {xs : List (Nat × Nat)} (h : HAt w hb r c xs) (e1 : w'.heap[hb]? = w.heap[hb]?) (e2 : w'.heap[r]? = w.heap[r]?) : HAt w' hb r c xs :=
  ⟨h.box.of e1, h.row.of e2, h.cap, h.lim⟩
theorem HAt.cell {w : World} {hb r c : Nat} {xs : List (Nat × Nat)} (h : HAt w hb r c xs) : w.cell? ⟨hb, 0, none⟩ = some (.slice (some ⟨r, 0, none⟩) xs.length c) := by
  have := h.box.cell 0; simpa using this
end
section
open Go.RowKit Go.BigFrame
theorem HAt.below {w w' : World} {hb r c : Nat} {xs : List (Nat × Nat)} (h : HAt w hb r c xs) (b : Below w.heap.size w w') : HAt w' hb r c xs :=
  h.of (b.block hb h.box.lt) (b.block r h.row.lt)
theorem x7G {w : World} {hb r c : Nat} {ys : List (Nat × Nat)} (h : HAt w hb r c ys) (i j m : Nat) (I J : Int) (hi : i < ys.length) (hj : j < ys.length) (hm : ys.length = m) (hI : I = (i : Int)) (hJ : J = (j : Int)) :
  Calls Tryz.prog 307 #[.slice (some ⟨r, 0, none⟩) m c, .int .i64 I, .int .i64 J] w fun e' w' => e' = .returned (.bool (lgB (gx ys i) (gx ys j))) /\ Below w.heap.size w w' := by
 subst hI hJ hm
 have := h.lim
 exact xN9 h.row _ _ (x0Q hi) (x0Q hj) hi hj (by omega)
theorem x7R {w : World} {hb r c : Nat} {ys : List (Nat × Nat)} (h : HAt w hb r c ys) (i j m : Nat) (I J : Int) (hij : i ≠ j) (hi : i < ys.length) (hj : j < ys.length) (hm : ys.length = m) (hI : I = (i : Int)) (hJ : J = (j : Int)) :
  Calls Tryz.prog 308 #[.slice (some ⟨r, 0, none⟩) m c, .int .i64 I, .int .i64 J] w fun e' w' => e' = .returned (.tuple #[]) /\ HAt w' hb r c (swapL ys i j) /\ Only [hb, r] w w' := by
 subst hI hJ hm
 have hl := h.lim
 have hs := kH (xJ5 ys i j)
 refine (xL6 (c := c) h.row hij hi hj (Nat.le_refl _) (by omega)).mono ?_
 rintro e w' ⟨rfl, hr, ho, -⟩
 refine ⟨rfl, ⟨?_, hr, by rw [hs.out]; exact h.cap, by rw [hs.out]; exact h.lim⟩, ho.mono (by simp)⟩
 rw [hs.out]
 exact h.box.of (ho.block hb h.box.lt (by simpa using h.ne))
theorem xAG (a : Nat × Nat) : ¬ Longer a a := by simp [Longer]
set_option maxHeartbeats 4000000 in
theorem x9X {w : World} {hb r c i0 n : Nat} {xs : List (Nat × Nat)} (h : HAt w hb r c xs) (hn : n <= xs.length) (hi : i0 <= 65536) (hbut : HBut xs n i0 i0) :
    Calls Tryz.prog 273 #[.iface 322 (.pointer (some ⟨hb, 0, none⟩)), .int .i64 i0, .int .i64 n] w fun e' w' => (∃ b, e' = .returned (.bool b)) /\ ∃ ys, HAt w' hb r c ys /\ ys.Perm xs /\ HFrom ys n i0 /\ (∀ j, n <= j -> gx ys j = gx xs j) /\ Only [hb, r] w w' := by
  have HH := kH h
  have HB := kH hbut
  have hlim := h.lim
  clear h hbut
  go_enter Tryz.func273, Tryz.ntmps273
  go_wp2
  go_loopw [7] (fun i wr => ∃ (k : Nat) (ys : List (Nat × Nat)), i0 <= k /\ k <= 65536 /\ i = .int .i64 k /\ HAt wr hb r c ys /\ ys.Perm xs /\ HBut ys n i0 k /\ (∀ j, n <= j -> gx ys j = gx xs j) /\ Only [hb, r] w wr) (fun i _ => 65537 - (intS i).toNat)
  case atStart => exact ⟨i0, xs, by omega, by omega, rfl, HH.out, List.Perm.refl _, HB.out, fun _ _ => rfl, Only.refl _ _⟩
  case round =>
    obtain ⟨k, ys, hk0, hk, rfl, ha, hp, hbt, hun, ho⟩ := hrel
    obtain ⟨wo, hwo⟩ : ∃ wo, wo = wr := ⟨_, rfl⟩
    subst hwo
    have hlen := hp.length_eq
    have HA := kH ha
    have HO := kH ho
    have HP := kH (kA hp (kA hbt hun))
    clear ha hp hbt hun ho
    have hw1 : IntKind.i64.wrap (2 * (k : Int)) = 2 * (k : Int) := by rw [IntKind.wrap_i64]; omega
    have hw2 : IntKind.i64.wrap (2 * (k : Int) + 1) = 2 * (k : Int) + 1 := by rw [IntKind.wrap_i64]; omega
    have hw3 : IntKind.i64.wrap (2 * (k : Int) + 1 + 1) = 2 * (k : Int) + 1 + 1 := by rw [IntKind.wrap_i64]; omega
    by_cases h1 : 2 * k + 1 < n
    · have hd0 : decide ((n : Int) <= 2 * (k : Int) + 1) = false := decide_eq_false (by omega)
      have hd0' : decide (2 * (k : Int) + 1 < 0) = false := decide_eq_false (by omega)
      by_cases h2 : 2 * k + 2 < n
      · have hd1 : decide (2 * (k : Int) + 1 + 1 < (n : Int)) = true := decide_eq_true (by omega)
        have HL := kH (x7G HA.out (2 * k + 2) (2 * k + 1) xs.length (2 * (k : Int) + 1 + 1) (2 * (k : Int) + 1) (by omega) (by omega) hlen (by omega) (by omega))
        have hm := fun f => x4B wo f hb _ _ _ HA.out.cell
        go_wp2_with fail
        refine HL.out.mono ?_
        rintro e1 w1 ⟨rfl, hb1⟩
        have HA1 : Hid (HAt w1 hb r c ys) := kH (HA.out.below hb1)
        have HO1 : Hid (Only [hb, r] w w1) := kH (HO.out.trans (Only.of_below hb1 _) (Fresh.refl _ _))
        have HLB : Hid (lgB (gx ys (2 * k + 2)) (gx ys (2 * k + 1)) = true ↔ Longer (gx ys (2 * k + 2)) (gx ys (2 * k + 1))) := kH (x7J _ _)
        clear HL hm HA HO hb1
        have HA := HA1
        have HO := HO1
        clear HA1 HO1
        cases hlb0 : lgB (gx ys (2 * k + 2)) (gx ys (2 * k + 1))
        · have HBE : Hid (∀ j', Kid k j' -> j' < n -> ¬ Longer (gx ys j') (gx ys (2 * k + 1))) := kH (fun j' hj' _ => by
            rcases hj' with rfl | rfl
            · exact xAG _
            · intro hh
              have := HLB.out.2 hh
              rw [hlb0] at this
              cases this)
          clear HLB
          have HL := kH (x7G HA.out (2 * k + 1) k xs.length (2 * (k : Int) + 1) (k : Int) (by omega) (by omega) hlen (by omega) (by omega))
          have hm := fun f => x4B w1 f hb _ _ _ HA.out.cell
          go_wp2_with fail
          refine HL.out.mono ?_
          rintro e2 w2 ⟨rfl, hb2⟩
          have HA2 : Hid (HAt w2 hb r c ys) := kH (HA.out.below hb2)
          have HO2 : Hid (Only [hb, r] w w2) := kH (HO.out.trans (Only.of_below hb2 _) (Fresh.refl _ _))
          have HLB : Hid (lgB (gx ys (2 * k + 1)) (gx ys k) = true ↔ Longer (gx ys (2 * k + 1)) (gx ys k)) := kH (x7J _ _)
          clear HL hm HO HA hb2
          cases hlb : lgB (gx ys (2 * k + 1)) (gx ys k)
          · go_wp2
            go_ret
            refine ⟨⟨_, rfl⟩, ys, HA2.out, HP.out.1, HP.out.2.1.done fun j' hk' hj' => x5X (fun hh => ?_) (HBE.out j' hk' hj'), HP.out.2.2, HO2.out⟩
            have := HLB.out.2 hh
            rw [hlb] at this
            cases this
          · have hlg := HLB.out.1 hlb
            have HSW := kH (x7R HA2.out k (2 * k + 1) xs.length (k : Int) (2 * (k : Int) + 1) (by omega) (by omega) (by omega) hlen (by omega) (by omega))
            have HST := kH (HP.out.2.1.step (j := 2 * k + 1) (by omega) (.inl rfl) (by omega) hk0 hlg HBE.out)
            have HPE := kH (x3T (xs := ys) (i := k) (j := 2 * k + 1) (by omega) (by omega))
            have HGX := kH (x3W (xs := ys) (i := k) (j := 2 * k + 1) (by omega) (by omega))
            have hm := fun f => x4E w2 f hb _ _ _ HA2.out.cell
            clear hlg
            go_wp2_with fail
            refine HSW.out.mono ?_
            rintro e3 w3 ⟨rfl, ha3, ho3⟩
            have HA3 := kH ha3
            have HO3 := kH (HO2.out.trans ho3 (Fresh.refl _ _))
            clear hm HSW ha3 ho3
            go_wp2
            go_roundw
            case rel =>
              refine ⟨2 * k + 1, swapL ys k (2 * k + 1), by omega, by omega, by go_num, HA3.out, HPE.out.trans HP.out.1, HST.out, fun j' hj' => ?_, HO3.out⟩
              rw [HGX.out j', if_neg (show ¬ j' = 2 * k + 1 by omega), if_neg (show ¬ j' = k by omega)]
              exact HP.out.2.2 j' hj'
            case measure => simp [intS]; omega
        · have HBE : Hid (∀ j', Kid k j' -> j' < n -> ¬ Longer (gx ys j') (gx ys (2 * k + 2))) := kH (fun j' hj' _ => by
            rcases hj' with rfl | rfl
            · exact x6W (HLB.out.1 hlb0)
            · exact xAG _)
          clear HLB
          have HL := kH (x7G HA.out (2 * k + 2) k xs.length (2 * (k : Int) + 1 + 1) (k : Int) (by omega) (by omega) hlen (by omega) (by omega))
          have hm := fun f => x4B w1 f hb _ _ _ HA.out.cell
          go_wp2_with fail
          refine HL.out.mono ?_
          rintro e2 w2 ⟨rfl, hb2⟩
          have HA2 : Hid (HAt w2 hb r c ys) := kH (HA.out.below hb2)
          have HO2 : Hid (Only [hb, r] w w2) := kH (HO.out.trans (Only.of_below hb2 _) (Fresh.refl _ _))
          have HLB : Hid (lgB (gx ys (2 * k + 2)) (gx ys k) = true ↔ Longer (gx ys (2 * k + 2)) (gx ys k)) := kH (x7J _ _)
          clear HL hm HO HA hb2
          cases hlb : lgB (gx ys (2 * k + 2)) (gx ys k)
          · go_wp2
            go_ret
            refine ⟨⟨_, rfl⟩, ys, HA2.out, HP.out.1, HP.out.2.1.done fun j' hk' hj' => x5X (fun hh => ?_) (HBE.out j' hk' hj'), HP.out.2.2, HO2.out⟩
            have := HLB.out.2 hh
            rw [hlb] at this
            cases this
          · have hlg := HLB.out.1 hlb
            have HSW := kH (x7R HA2.out k (2 * k + 2) xs.length (k : Int) (2 * (k : Int) + 1 + 1) (by omega) (by omega) (by omega) hlen (by omega) (by omega))
            have HST := kH (HP.out.2.1.step (j := 2 * k + 2) (by omega) (.inr rfl) (by omega) hk0 hlg HBE.out)
            have HPE := kH (x3T (xs := ys) (i := k) (j := 2 * k + 2) (by omega) (by omega))
            have HGX := kH (x3W (xs := ys) (i := k) (j := 2 * k + 2) (by omega) (by omega))
            have hm := fun f => x4E w2 f hb _ _ _ HA2.out.cell
            clear hlg
            go_wp2_with fail
            refine HSW.out.mono ?_
            rintro e3 w3 ⟨rfl, ha3, ho3⟩
            have HA3 := kH ha3
            have HO3 := kH (HO2.out.trans ho3 (Fresh.refl _ _))
            clear hm HSW ha3 ho3
            go_wp2
            go_roundw
            case rel =>
              refine ⟨2 * k + 2, swapL ys k (2 * k + 2), by omega, by omega, by go_num, HA3.out, HPE.out.trans HP.out.1, HST.out, fun j' hj' => ?_, HO3.out⟩
              rw [HGX.out j', if_neg (show ¬ j' = 2 * k + 2 by omega), if_neg (show ¬ j' = k by omega)]
              exact HP.out.2.2 j' hj'
            case measure => simp [intS]; omega
      · have hd1 : decide (2 * (k : Int) + 1 + 1 < (n : Int)) = false := decide_eq_false (by omega)
        have HBE : Hid (∀ j', Kid k j' -> j' < n -> ¬ Longer (gx ys j') (gx ys (2 * k + 1))) := kH (fun j' hj' hh => by
          rcases hj' with rfl | rfl
          · exact xAG _
          · omega)
        have HL := kH (x7G HA.out (2 * k + 1) k xs.length (2 * (k : Int) + 1) (k : Int) (by omega) (by omega) hlen (by omega) (by omega))
        have hm := fun f => x4B wo f hb _ _ _ HA.out.cell
        go_wp2_with fail
        refine HL.out.mono ?_
        rintro e2 w2 ⟨rfl, hb2⟩
        have HA2 : Hid (HAt w2 hb r c ys) := kH (HA.out.below hb2)
        have HO2 : Hid (Only [hb, r] w w2) := kH (HO.out.trans (Only.of_below hb2 _) (Fresh.refl _ _))
        have HLB : Hid (lgB (gx ys (2 * k + 1)) (gx ys k) = true ↔ Longer (gx ys (2 * k + 1)) (gx ys k)) := kH (x7J _ _)
        clear HL hm HO HA hb2
        cases hlb : lgB (gx ys (2 * k + 1)) (gx ys k)
        · go_wp2
          go_ret
          refine ⟨⟨_, rfl⟩, ys, HA2.out, HP.out.1, HP.out.2.1.done fun j' hk' hj' => x5X (fun hh => ?_) (HBE.out j' hk' hj'), HP.out.2.2, HO2.out⟩
          have := HLB.out.2 hh
          rw [hlb] at this
          cases this
        · have hlg := HLB.out.1 hlb
          have HSW := kH (x7R HA2.out k (2 * k + 1) xs.length (k : Int) (2 * (k : Int) + 1) (by omega) (by omega) (by omega) hlen (by omega) (by omega))
          have HST := kH (HP.out.2.1.step (j := 2 * k + 1) (by omega) (.inl rfl) (by omega) hk0 hlg HBE.out)
          have HPE := kH (x3T (xs := ys) (i := k) (j := 2 * k + 1) (by omega) (by omega))
          have HGX := kH (x3W (xs := ys) (i := k) (j := 2 * k + 1) (by omega) (by omega))
          have hm := fun f => x4E w2 f hb _ _ _ HA2.out.cell
          clear hlg
          go_wp2_with fail
          refine HSW.out.mono ?_
          rintro e3 w3 ⟨rfl, ha3, ho3⟩
          have HA3 := kH ha3
          have HO3 := kH (HO2.out.trans ho3 (Fresh.refl _ _))
          clear hm HSW ha3 ho3
          go_wp2
          go_roundw
          case rel =>
            refine ⟨2 * k + 1, swapL ys k (2 * k + 1), by omega, by omega, by go_num, HA3.out, HPE.out.trans HP.out.1, HST.out, fun j' hj' => ?_, HO3.out⟩
            rw [HGX.out j', if_neg (show ¬ j' = 2 * k + 1 by omega), if_neg (show ¬ j' = k by omega)]
            exact HP.out.2.2 j' hj'
          case measure => simp [intS]; omega
    · have hd0 : decide ((n : Int) <= 2 * (k : Int) + 1) = true := decide_eq_true (by omega)
      go_wp2
      go_ret
      exact ⟨⟨_, rfl⟩, ys, HA.out, HP.out.1, HP.out.2.1.done fun j' hk' hj' => by simp only [Kid] at hk'; omega, HP.out.2.2, HO.out⟩
end
section
open Go.RowKit Go.BigFrame
set_option maxHeartbeats 4000000 in
theorem xKQ {w : World} {hb r c : Nat} {xs : List (Nat × Nat)} (h : HAt w hb r c xs) :
  Calls Tryz.prog 250 #[.iface 322 (.pointer (some ⟨hb, 0, none⟩))] w fun e' w' => e' = .returned (.tuple #[]) /\ ∃ ys, HAt w' hb r c ys /\ ys.Perm xs /\ HFrom ys ys.length 0 /\ Only [hb, r] w w' := by
 have HH := kH h
 have hlim := h.lim
 have hm := fun f => xDM w f hb _ _ _ h.cell
 clear h
 have hq : (xs.length : Int).tdiv 2 = ((xs.length / 2 : Nat) : Int) := by rw [Int.tdiv_eq_ediv_of_nonneg (by omega)]; omega
 have hw1 : IntKind.i64.wrap (((xs.length / 2 : Nat) : Int)) = ((xs.length / 2 : Nat) : Int) := by rw [IntKind.wrap_i64]; omega
 have hw2 : IntKind.i64.wrap (((xs.length / 2 : Nat) : Int) - 1) = ((xs.length / 2 : Nat) : Int) - 1 := by rw [IntKind.wrap_i64]; omega
 go_enter Tryz.func250, Tryz.ntmps250
 go_wp2_with fail
 refine (xDK _ _ _ _).mono ?_
 rintro e w ⟨rfl, rfl⟩
 clear hm
 go_wp2
 go_loopw [3] (fun i wr => ∃ (k : Nat) (ys : List (Nat × Nat)), k <= 65536 /\ i = .int .i64 ((k : Int) - 1) /\ HAt wr hb r c ys /\ ys.Perm xs /\ HFrom ys xs.length k /\ Only [hb, r] w wr) (fun i _ => (intS i + 1).toNat)
 case atStart => 
  exact ⟨xs.length / 2, xs, by omega, by go_num, HH.out, List.Perm.refl _, HFrom.half _ _, Only.refl _ _⟩
 case round =>
  obtain ⟨k, ys, hk, rfl, ha, hp, hf, ho⟩ := hrel
  have hlen := hp.length_eq
  by_cases h0 : k = 0
  ·subst h0
   have HP := kH (kA ha (kA hp (kA hf ho)))
   clear ha hp hf ho
   go_wp2
   refine bodyPost_end (results_none rfl _ _ _) rfl ?_
   exact ⟨rfl, ys, HP.out.1, HP.out.2.1, by rw [hlen]; exact HP.out.2.2.1, HP.out.2.2.2⟩
  ·obtain ⟨j, rfl⟩ : ∃ j, k = j + 1 := ⟨k - 1, by omega⟩
   have HD := kH (x9X ha (n := xs.length) (by omega) (i0 := j) (by omega) hf.but)
   have HO := kH (kA hp ho)
   clear ha hp hf ho
   have he : ((j + 1 : Nat) : Int) - 1 = (j : Int) := by omega
   rw [he]
   have hwk : IntKind.i64.wrap ((j : Int) - 1) = (j : Int) - 1 := by rw [IntKind.wrap_i64]; omega
   go_wp2_with fail
   refine HD.out.mono ?_
   rintro e2 w2 ⟨⟨b, rfl⟩, ys2, ha2, hp2, hf2, -, ho2⟩
   have HR := kH (kA ha2 (kA (hp2.trans HO.out.1) (kA hf2 (HO.out.2.trans ho2 (Fresh.refl _ _)))))
   clear HD HO ha2 hp2 hf2 ho2
   go_wp2
   go_roundw
   case rel => exact ⟨j, ys2, by omega, rfl, HR.out⟩
   case measure => simp [intS]
set_option maxHeartbeats 4000000 in
theorem xNN {w : World} {hb r c : Nat} {xs : List (Nat × Nat)} (h : HAt w hb r c xs) (hf : HFrom xs xs.length 0) (h0 : 0 < xs.length) :
  Calls Tryz.prog 251 #[.iface 322 (.pointer (some ⟨hb, 0, none⟩))] w fun e' w' => e' = .returned (.iface 198 (.agg #[.int .i64 ((gx xs 0).1 : Int), .int .i64 ((gx xs 0).2 : Int)])) /\ ∃ ys, HAt w' hb r c ys /\ ys.Perm (xs.erase (gx xs 0)) /\ HFrom ys ys.length 0 /\ Only [hb, r] w w' := by
 obtain ⟨n, hn⟩ : ∃ n, xs.length = n + 1 := ⟨xs.length - 1, by omega⟩
 have HH := kH h
 have hlim := h.lim
 have hm := fun f => xDM w f hb _ _ _ h.cell
 have hm2 := fun f => x4E w f hb _ _ _ h.cell
 have hsw : ∃ ys, HFrom ys n 1 /\ ys.Perm xs /\ gx ys n = gx xs 0 /\ Calls Tryz.prog 308 #[.slice (some ⟨r, 0, none⟩) (n + 1) c, .int .i64 0, .int .i64 n] w fun e' w' => e' = .returned (.tuple #[]) /\ HAt w' hb r c ys /\ Only [hb, r] w w' := by
  by_cases hz : n = 0
  ·subst hz
   refine ⟨xs, fun i j _ _ hj => by omega, List.Perm.refl _, rfl, ?_⟩
   refine (xK5 (c := c) h.row h0 (by omega) (by omega)).mono ?_
   rintro e w' ⟨rfl, hr, ho, -⟩
   exact ⟨rfl, ⟨h.box.of (ho.block hb h.box.lt (by simpa using h.ne)), hr, h.cap, h.lim⟩, ho.mono (by simp)⟩
  ·refine ⟨swapL xs 0 n, HFrom.last (hn ▸ hf) hn, x3T (by omega) (by omega), ?_, x7R h 0 n (n + 1) 0 n (by omega) (by omega) (by omega) hn rfl rfl⟩
   rw [x3W (by omega) (by omega), if_pos rfl]
 obtain ⟨y1, f1, p1, g1, s1⟩ := hsw
 have HS := kH s1
 have HY := kH (kA f1.but (kA p1 g1))
 have hl1 := p1.length_eq
 rw [hn] at hm hm2 hl1 hlim
 clear h hf s1 f1 p1 g1 h0
 have hw : IntKind.i64.wrap ((n : Int) + 1 - 1) = (n : Int) := by rw [IntKind.wrap_i64]; omega
 go_enter Tryz.func251, Tryz.ntmps251
 go_wp2_with fail
 refine (xDK _ _ _ _).mono ?_
 rintro e w ⟨rfl, rfl⟩
 go_wp2_with fail
 refine HS.out.mono ?_
 rintro e w1 ⟨rfl, a1, o1⟩
 have HD := kH (x9X a1 (n := n) (by omega) (i0 := 0) (by omega) HY.out.1)
 have HO := kH o1
 clear hm hm2 HS a1 o1
 go_wp2_with fail
 refine HD.out.mono ?_
 rintro e2 w2 ⟨⟨b, rfl⟩, y2, a2, p2, f2, u2, o2⟩
 have hl2 := p2.length_eq
 have hsp : y2 = y2.take n ++ [gx xs 0] := by
  have h1 := (List.take_append_drop n y2).symm
  have h2 : y2.drop n = [gx xs 0] := by
   rw [List.drop_eq_getElem_cons (by omega), List.drop_of_length_le (by omega)]
   have := x0Q (xs := y2) (i := n) (by omega)
   rw [u2 n (Nat.le_refl _), HY.out.2.2, List.getElem?_eq_getElem (by omega)] at this
   injection this with this
   rw [this]
  rwa [h2] at h1
 have hzl : (y2.take n).length = n := by simp; omega
 have hpz : (y2.take n).Perm (xs.erase (gx xs 0)) := by
  have q := (p2.trans HY.out.2.1)
  rw [hsp] at q
  have q2 := (List.perm_append_comm.trans q).erase (gx xs 0)
  simpa using q2
 have hfz : HFrom (y2.take n) (y2.take n).length 0 := by
  refine HFrom.prefix_ (e := gx xs 0) ?_
  rw [<- hsp, hzl]
  exact f2
 rw [hsp] at a2
 generalize y2.take n = zs at *
 have HPO := kH (xLM a2)
 have HZ := kH (kA hpz (kA hfz (HO.out.trans o2 (Fresh.refl _ _))))
 have hm3 := fun f => xMV w2 f hb
 clear HD HO a2 p2 f2 u2 o2 hpz hfz hsp
 go_wp2_with fail
 refine HPO.out.mono ?_
 rintro e3 w3 ⟨rfl, a3, o3⟩
 have HA := kH (kA a3 o3)
 clear HPO a3 o3
 go_wp2
 go_ret
 exact ⟨rfl, zs, HA.out.1, HZ.out.1, HZ.out.2.1, HZ.out.2.2.trans (HA.out.2.mono (by simp)) (Fresh.refl _ _)⟩
end
section
open Go.RowKit Go.BigFrame
def exV (e : Nat × Nat) : Value := .agg #[.int .i64 (e.1 : Int), .int .i64 (e.2 : Int)]
theorem xL4 {w : World} {p : Nat} (n : Nat) (e : Nat × Nat) (hp : w.cell? ⟨p, 0, none⟩ = some (.int .i64 (n : Int))) (hpl : p < w.heap.size) :
  Calls Tryz.prog 253 #[exV e, .pointer (some ⟨p, 0, none⟩)] w fun e' w' => e' = .returned (.bool (decide (n <= e.2))) /\ Below w.heap.size w w' := by
 go_enter Tryz.func253, Tryz.ntmps253
 unfold exV
 go_wp2
 go_ret
 exact ⟨rfl, (Below.refl _ _).alloc (Nat.le_refl _) _⟩
def fitsV (p : Nat) : Value := .func (.func 253) #[] #[.pointer (some ⟨p, 0, none⟩)]
def notV (q : Nat) : Value := .func (.func 275) #[] #[.pointer (some ⟨q, 0, none⟩)]
structure Cap (w : World) (p q n : Nat) : Prop where
 num : w.cell? ⟨p, 0, none⟩ = some (.int .i64 (n : Int))
 fn : w.cell? ⟨q, 0, none⟩ = some (fitsV p)
 pl : p < w.heap.size
 ql : q < w.heap.size
theorem Cap.of {w w' : World} {p q n : Nat} (h : Cap w p q n) (hs : w.heap.size <= w'.heap.size) (h1 : w'.heap[p]? = w.heap[p]?) (h2 : w'.heap[q]? = w.heap[q]?) : Cap w' p q n :=
  ⟨by rw [<- h.num]; simp [World.cell?, h1], by rw [<- h.fn]; simp [World.cell?, h2], Nat.lt_of_lt_of_le h.pl hs, Nat.lt_of_lt_of_le h.ql hs⟩
theorem x9A {w : World} {p q n : Nat} (e : Nat × Nat) (h : Cap w p q n) :
  Calls Tryz.prog 275 #[exV e, .pointer (some ⟨q, 0, none⟩)] w fun e' w' => e' = .returned (.bool (!decide (n <= e.2))) /\ Below w.heap.size w w' := by
 have h1 := h.fn
 have hpl := h.pl
 have hql := h.ql
 have HF := kH (xL4 (w := w.alloc (.cells #[.int .i64 (e.1 : Int), .int .i64 (e.2 : Int)] 198)) n e ((World.cell?_alloc_lt w _ _ h.pl).trans h.num) (by rw [World.size_alloc]; omega))
 clear h
 unfold fitsV at h1
 go_enter Tryz.func275, Tryz.ntmps275
 unfold exV at HF ⊢
 go_wp2_with fail
 refine HF.out.mono ?_
 rintro e2 w2 ⟨rfl, hb2⟩
 have HB := kH (((Below.refl w.heap.size w).alloc (Nat.le_refl _) (.cells #[.int .i64 (e.1 : Int), .int .i64 (e.2 : Int)] 198)).trans (hb2.mono (by rw [World.size_alloc]; omega)))
 clear hb2 HF
 go_wp2
 go_ret
 exact ⟨rfl, HB.out⟩
def cmpE (e q : Nat × Nat) : Int := orI (cmpI (e.2 : Int) (q.2 : Int)) (cmpI (e.1 : Int) (q.1 : Int))
theorem xMS (e q : Nat × Nat) : cmpE e q < 0 ↔ Shorter e q := by
 simp only [cmpE, orI, cmpI, Shorter]
 by_cases h1 : (e.2 : Int) < (q.2 : Int)
 ·simp only [h1, if_true]; simp; omega
 ·by_cases h2 : (q.2 : Int) < (e.2 : Int)
  ·simp only [h1, h2, if_true, if_false]; simp; omega
  ·simp only [h1, h2, if_false, if_true]
   by_cases h3 : (e.1 : Int) < (q.1 : Int)
   ·simp only [h3, if_true]; simp; omega
   ·by_cases h4 : (q.1 : Int) < (e.1 : Int)
    ·simp only [h3, h4, if_true, if_false]; simp; omega
    ·simp only [h3, h4, if_false]; simp; omega
set_option maxHeartbeats 2000000 in
theorem xM1 (w : World) (e q : Nat × Nat) :
  Calls Tryz.prog 277 #[exV e, exV q] w fun e' w' => e' = .returned (.int .i64 (cmpE e q)) /\ Below w.heap.size w w' := by
 go_enter Tryz.func277, Tryz.ntmps277
 unfold exV
 go_wp2_with fail
 have b0 : ∀ j u, #[Value.int .i64 (e.1 : Int), .int .i64 (e.2 : Int)][j]? = some u -> ((w.alloc (.cells #[.int .i64 (e.1 : Int), .int .i64 (e.2 : Int)] 198)).alloc (.cells #[.int .i64 (q.1 : Int), .int .i64 (q.2 : Int)] 198)).cell? ⟨w.heap.size, j, none⟩ = some u := fun j u hu => (World.cell?_alloc_lt _ _ _ (by rw [World.size_alloc]; show w.heap.size < _; omega)).trans (((Blk.new w 198 _).cell j).trans hu)
 have b1 : ∀ j u, #[Value.int .i64 (q.1 : Int), .int .i64 (q.2 : Int)][j]? = some u -> ((w.alloc (.cells #[.int .i64 (e.1 : Int), .int .i64 (e.2 : Int)] 198)).alloc (.cells #[.int .i64 (q.1 : Int), .int .i64 (q.2 : Int)] 198)).cell? ⟨w.heap.size + 1, j, none⟩ = some u := fun j u hu => by
  have := (Blk.new (w.alloc (.cells #[.int .i64 (e.1 : Int), .int .i64 (e.2 : Int)] 198)) 198 #[Value.int .i64 (q.1 : Int), .int .i64 (q.2 : Int)]).cell j
  rw [World.size_alloc] at this
  exact this.trans hu
 have a0 := b0 0 _ rfl
 have a1 := b0 1 _ rfl
 have a2 := b1 0 _ rfl
 have a3 := b1 1 _ rfl
 have hbw : Below w.heap.size w ((w.alloc (.cells #[.int .i64 (e.1 : Int), .int .i64 (e.2 : Int)] 198)).alloc (.cells #[.int .i64 (q.1 : Int), .int .i64 (q.2 : Int)] 198)) := ((Below.refl _ _).alloc (Nat.le_refl _) _).alloc (by rw [World.size_alloc]; omega) _
 have hsz : ((w.alloc (.cells #[.int .i64 (e.1 : Int), .int .i64 (e.2 : Int)] 198)).alloc (.cells #[.int .i64 (q.1 : Int), .int .i64 (q.2 : Int)] 198)).heap.size = w.heap.size + 2 := by rw [World.size_alloc, World.size_alloc]
 generalize hg : w.heap.size = g at *
 have HG := kH hg
 clear hg
 generalize ((w.alloc (.cells #[.int .i64 (e.1 : Int), .int .i64 (e.2 : Int)] 198)).alloc (.cells #[.int .i64 (q.1 : Int), .int .i64 (q.2 : Int)] 198)) = w1 at *
 have HW := kH (kA hbw hsz)
 clear b0 b1 hbw hsz
 refine wp_region_still_tail 10 (by kernel_rfl) (by kernel_rfl) ?_
 simp only [List.take_succ_cons, List.take_zero, List.drop_succ_cons, List.drop_zero]
 repeat still_step
 still_call (x7I _ _ _)
 repeat still_step
 still_call (x7I _ _ _)
 repeat still_step
 refine wpStill_nil ?_
 change wpList _ _ _ _ _ w1.drew
 have HL : Hid (cmpE e q = orI (cmpI (e.2 : Int) (q.2 : Int)) (cmpI (e.1 : Int) (q.1 : Int))) := kH rfl
 generalize cmpI (e.2 : Int) (q.2 : Int) = ca at *
 generalize cmpI (e.1 : Int) (q.1 : Int) = cb at *
 have hb2 : Below g w w1.drew := HW.out.1.drew
 have hs2 : g <= w1.drew.heap.size := by show g <= w1.heap.size; rw [HW.out.2]; omega
 generalize w1.drew = w2 at *
 clear a0 a1 a2 a3 HW
 have HO := kH (xI2 ca cb w2.heap.size (w2.alloc (.cells #[.int .i64 ca, .int .i64 cb] 3)) ((Blk.new w2 3 #[.int .i64 ca, .int .i64 cb]).cell 0) ((Blk.new w2 3 #[.int .i64 ca, .int .i64 cb]).cell 1))
 have HB := kH (hb2.alloc hs2 (.cells #[.int .i64 ca, .int .i64 cb] 3))
 clear hb2 hs2
 go_wp2_with fail
 refine HO.out.mono ?_
 rintro e3 w3 ⟨rfl, rfl⟩
 go_wp2
 go_ret
 rw [HL.out, HG.out]
 exact ⟨rfl, HB.out⟩
end
section
open Go.RowKit Go.BigFrame
def Idx (xs : List (Nat × Nat)) (n : Nat) (v : Int) : Prop := (v = -1 /\ ∀ e ∈ xs, n <= e.2) ∨ ∃ k : Nat, v = k /\ k < xs.length /\ (∀ j, j < k -> n <= (gx xs j).2) /\ ¬ n <= (gx xs k).2
set_option maxHeartbeats 2000000 in
theorem xIE {w : World} {r c p q n : Nat} {xs : List (Nat × Nat)} (h : ERow w r xs) (hl : xs.length <= 65536) (hC : Cap w p q n) :
  Calls Tryz.prog 286 #[.slice (some ⟨r, 0, none⟩) xs.length c, notV q] w fun e' w' => (∃ v, e' = .returned (.int .i64 v) /\ Idx xs n v) /\ Below w.heap.size w w' := by
 have H := kH h
 have HC := kH hC
 have hrl := h.lt
 clear h hC
 go_enter Tryz.func286, Tryz.ntmps286
 unfold notV
 go_wp2
 go_loopw [8] (fun i wr => ∃ k : Nat, k <= xs.length /\ i = .int .i64 k /\ (∀ j, j < k -> n <= (gx xs j).2) /\ Below w.heap.size w wr) (fun i _ => xs.length - (intS i).toNat)
 case atStart => exact ⟨0, by omega, rfl, fun j hj => by omega, Below.refl _ _⟩
 case round =>
  obtain ⟨k, hk, rfl, hf, hb⟩ := hrel
  obtain ⟨wo, hwo⟩ : ∃ wo, wo = wr := ⟨_, rfl⟩
  subst hwo
  have HF := kH hf
  have hrow : ERow wo r xs := H.out.of (hb.block r hrl)
  have hcap : Cap wo p q n := HC.out.of hb.size (hb.block p HC.out.pl) (hb.block q HC.out.ql)
  by_cases hlt : k < xs.length
  ·obtain ⟨c0, c1, -, -⟩ := hrow.get (x0Q hlt)
   have HN := kH (x9A (gx xs k) hcap)
   have HB := kH hb
   clear hrow hcap hb hf
   have hwk : IntKind.i64.wrap ((k : Int) + 1) = (k : Int) + 1 := by rw [IntKind.wrap_i64]; omega
   unfold exV at HN
   go_wp2_with fail
   refine HN.out.mono ?_
   rintro e2 w2 ⟨rfl, hb2⟩
   have HB2 := kH (HB.out.trans (hb2.mono HB.out.size))
   clear hb2 HN HB c0 c1
   by_cases hfit : n <= (gx xs k).2
   ·have hd : (!decide (n <= (gx xs k).2)) = false := by simp [hfit]
    go_wp2
    go_roundw
    case rel => exact ⟨k + 1, by omega, by go_num, fun j hj => by
     by_cases he : j = k
     ·subst he; exact hfit
     ·exact HF.out j (by omega), HB2.out⟩
    case measure => simp [intS]; omega
   ·have hd : (!decide (n <= (gx xs k).2)) = true := by simp [hfit]
    go_wp2
    go_ret
    exact ⟨⟨_, rfl, .inr ⟨k, rfl, hlt, HF.out, hfit⟩⟩, HB2.out⟩
  ·obtain rfl : k = xs.length := by omega
   have HB := kH hb
   clear hrow hcap hb hf
   go_wp2
   go_ret
   refine ⟨⟨_, rfl, .inl ⟨rfl, fun e he => ?_⟩⟩, HB.out⟩
   obtain ⟨j, hj, rfl⟩ := List.mem_iff_getElem.1 he
   have := HF.out j hj
   rwa [x5H (List.getElem?_eq_getElem hj)] at this
end
section
open Go.RowKit Go.BigFrame
theorem xC9 (r n c i : Nat) (h : i < n) (hc : n <= c) (w : World) : (Instr.slice 135 (.slice (some ⟨r, 0, none⟩) n c) (some (.int .i64 (i : Int))) none none).run Tryz.prog w = .ok (.slice (some ⟨r, i * 2, none⟩) (n - i) (c - i)) w := by
 have hsz : ∀ w, (sizeOf (Tryz.prog.elem 135)).run Tryz.prog w = .ok 2 w := fun w => by kernel_rfl
 rw [run_slice_l w 135 (some ⟨r, 0, none⟩) n c (by kernel_rfl) .i64 (i : Int) (by omega) (by omega), hsz]
 simp only [Result.andThen, sliced, Int.toNat_natCast]
 rw [if_neg (by omega)]
 by_cases hz : i * 2 = 0 <;> simp [Addr.add, hz]
theorem xBX (w : World) (r o n c : Nat) (hn : 0 < n) (hc : ∀ j, j < n * 2 -> (w.cell? ⟨r, o + j, none⟩).isSome = true) (hf : ∀ j, j < n * 2 -> w.frozen? ⟨r, o + j, none⟩ = false) :
  ∃ vs : List Value, vs.length = n * 2 /\ ∀ ty, (Builtin.clear_ #[135] ty #[.slice (some ⟨r, o, none⟩) n c]).run Tryz.prog w = .ok (.tuple #[]) (w.setCells r o vs) := by
 have hv : ∀ w, (zeroValue 198).run Tryz.prog w = .ok (.agg #[.int .i64 0, .int .i64 0]) w := fun w => by kernel_rfl
 have ht : Tryz.prog.underlying 135 = some (.slice 198) := by kernel_rfl
 have hlen : (Builtin.zeroCells #[Value.int .i64 0, .int .i64 0] n).size = n * 2 := by simp [Builtin.zeroCells]; try omega
 have hone : ∀ v ∈ (Builtin.zeroCells #[Value.int .i64 0, .int .i64 0] n).toList, v.oneCell' = true := by
  intro v hv
  simp [Builtin.zeroCells] at hv
  obtain ⟨j, hj, rfl⟩ := hv
  have : j % 2 = 0 ∨ j % 2 = 1 := by omega
  rcases this with h | h <;> simp [h] <;> rfl
 have hst := run_storeCells_cells (P := Tryz.prog) r o (Builtin.zeroCells #[Value.int .i64 0, .int .i64 0] n).toList 0 w (by simpa [hlen] using hc) (by simpa [hlen] using hf) hone
 simp only [Nat.add_zero] at hst
 refine ⟨(Builtin.zeroCells #[Value.int .i64 0, .int .i64 0] n).toList, by simpa using hlen, fun ty => ?_⟩
 obtain ⟨m, rfl⟩ : ∃ m, n = m + 1 := ⟨n - 1, by omega⟩
 simp [Builtin.clear_, run_underlying ht, hv, hst, Value.cells]
theorem ERow.cleared {w : World} {r : Nat} {xs : List (Nat × Nat)} (h : ERow w r xs) (i : Nat) (vs : List Value) : ERow (w.setCells r (i * 2) vs) r (xs.take i) := by
 obtain ⟨cs, hb, hc⟩ := h
 obtain ⟨cs', hb', -⟩ := hb.setCells_ vs (i * 2)
 refine ⟨cs', hb', fun k e hk => ?_⟩
 rw [List.getElem?_take] at hk
 split at hk
 ·rename_i hki
  have h0 := hc k e hk
  have c0 := (hb'.cell (k * 2)).symm.trans (World.cell?_setCells_out r vs (i * 2) w ⟨r, k * 2, none⟩ (fun _ _ => .inl (by show k * 2 < i * 2; omega)))
  have c1 := (hb'.cell (k * 2 + 1)).symm.trans (World.cell?_setCells_out r vs (i * 2) w ⟨r, k * 2 + 1, none⟩ (fun _ _ => .inl (by show k * 2 + 1 < i * 2; omega)))
  exact ⟨c0.trans ((hb.cell _).trans h0.1), c1.trans ((hb.cell _).trans h0.2)⟩
 ·cases hk
def fitL (n : Nat) (xs : List (Nat × Nat)) : List (Nat × Nat) := xs.filter fun e => decide (n <= e.2)
set_option maxHeartbeats 4000000 in
theorem xG6 {w : World} {r c p q n : Nat} {xs : List (Nat × Nat)} (h : ERow w r xs) (hl : xs.length <= 65536) (hcl : xs.length <= c) (hC : Cap w p q n) (hpr : p ≠ r) (hqr : q ≠ r) :
  Calls Tryz.prog 274 #[.slice (some ⟨r, 0, none⟩) xs.length c, notV q] w fun e' w' => e' = .returned (.slice (some ⟨r, 0, none⟩) (fitL n xs).length c) /\ ERow w' r (fitL n xs) /\ Only [r] w w' := by
 have H := kH h
 have HC := kH hC
 have hrl := h.lt
 have HI := kH (xIE (c := c) h hl hC)
 clear h hC
 unfold notV at HI ⊢
 go_enter Tryz.func274, Tryz.ntmps274
 go_wp2_with fail
 refine HI.out.mono ?_
 rintro e1 w1 ⟨⟨v, rfl, hv⟩, hb1⟩
 clear HI
 have HB1 := kH hb1
 clear hb1
 rcases hv with ⟨rfl, hall⟩ | ⟨k, rfl, hkl, hpre, hbad⟩
 ·have hfl : fitL n xs = xs := List.filter_eq_self.2 (fun e he => by simpa using hall e he)
  have HF := kH hfl
  clear hall hfl
  go_wp2
  go_ret
  rw [HF.out]
  exact ⟨rfl, H.out.of (HB1.out.block r hrl), Only.of_below HB1.out _⟩
 ·have hd : ((k : Int) == -1) = false := by simp
  have hwk : IntKind.i64.wrap ((k : Int) + 1) = (k : Int) + 1 := by rw [IntKind.wrap_i64]; omega
  have hf0 : fitL n (xs.take (k + 1)) = xs.take k := by
   rw [List.take_add_one, x0Q hkl]
   simp only [fitL, List.filter_append, Option.toList_some]
   rw [show List.filter (fun e : Nat × Nat => decide (n <= e.2)) [gx xs k] = [] by simp [hbad], List.append_nil]
   refine List.filter_eq_self.2 (fun e he => ?_)
   obtain ⟨j, hj, rfl⟩ := List.mem_iff_getElem.1 he
   simp only [List.length_take] at hj
   have := hpre j (by omega)
   rw [x5H (List.getElem?_eq_getElem (by omega))] at this
   simpa using this
  have HF0 := kH hf0
  clear hpre hbad hf0
  go_wp2_with fail
  go_loopw [5, 6] (fun vi vj wr => ∃ (i j : Nat) (ys : List (Nat × Nat)), i < j /\ j <= xs.length /\ vi = .int .i64 i /\ vj = .int .i64 j /\ ys.length = xs.length /\ ys.take i = fitL n (xs.take j) /\ ys.drop j = xs.drop j /\ ERow wr r ys /\ Only [r] w wr) (fun _ vj _ => xs.length - (intS vj).toNat)
  case atStart => exact ⟨k, k + 1, xs, by omega, by omega, rfl, by go_num, rfl, HF0.out.symm, rfl, H.out.of (HB1.out.block r hrl), Only.of_below HB1.out _⟩
  case round =>
   obtain ⟨i, j, ys, hij, hj, rfl, rfl, hyl, hyt, hyd, hrow, ho⟩ := hrel
   obtain ⟨wo, hwo⟩ : ∃ wo, wo = wr := ⟨_, rfl⟩
   subst hwo
   have HR := kH hrow
   have HY := kH (kA hyt hyd)
   have HO := kH ho
   have hcap : Cap wo p q n := HC.out.of ho.size (ho.block p HC.out.pl (by simpa using hpr)) (ho.block q HC.out.ql (by simpa using hqr))
   have hrl2 := hrow.lt
   clear hrow hyt hyd ho
   by_cases hlt : j < xs.length
   ·obtain ⟨c0, c1, -, -⟩ := HR.out.get (x0Q (xs := ys) (i := j) (by omega))
    have HN := kH (x9A (w := wo.alloc (.cells #[.int .i64 ((gx ys j).1 : Int), .int .i64 ((gx ys j).2 : Int)] 198)) (gx ys j) (hcap.of (by rw [World.size_alloc]; omega) (Below.heap_alloc _ _ _ hcap.pl) (Below.heap_alloc _ _ _ hcap.ql)))
    have hbl := (Blk.new wo 198 #[.int .i64 ((gx ys j).1 : Int), .int .i64 ((gx ys j).2 : Int)])
    have HL := kH hbl
    have HO1 := kH (HO.out.alloc (.cells #[.int .i64 ((gx ys j).1 : Int), .int .i64 ((gx ys j).2 : Int)] 198))
    have HR1 : Hid (ERow (wo.alloc (.cells #[.int .i64 ((gx ys j).1 : Int), .int .i64 ((gx ys j).2 : Int)] 198)) r ys) := kH (HR.out.of (Below.heap_alloc _ _ _ hrl2))
    have hgj : gx ys j = gx xs j := by
     have := congrArg (fun l => l[0]?) HY.out.2
     simp only [List.getElem?_drop, Nat.add_zero] at this
     rw [x0Q (by omega), x0Q hlt] at this
     injection this
    have htj : fitL n (xs.take (j + 1)) = fitL n (xs.take j) ++ fitL n [gx ys j] := by
     rw [List.take_add_one, x0Q hlt, hgj]
     simp [fitL]
    have hdj : ys.drop (j + 1) = xs.drop (j + 1) := by
     have := congrArg (fun l => l.drop 1) HY.out.2
     simpa [List.drop_drop] using this
    have HT := kH (kA htj hdj)
    have hwj : IntKind.i64.wrap ((j : Int) + 1) = (j : Int) + 1 := by rw [IntKind.wrap_i64]; omega
    have hwi : IntKind.i64.wrap ((i : Int) + 1) = (i : Int) + 1 := by rw [IntKind.wrap_i64]; omega
    clear hgj htj hdj hbl hcap HR
    unfold exV at HN
    go_wp2_with fail
    refine HN.out.mono ?_
    rintro e2 w2 ⟨rfl, hb2⟩
    clear HN c0 c1
    have hsz : wo.heap.size < (wo.alloc (.cells #[.int .i64 ((gx ys j).1 : Int), .int .i64 ((gx ys j).2 : Int)] 198)).heap.size := by rw [World.size_alloc]; omega
    have hL2 := HL.out.of (hb2.block _ hsz)
    have HL2 := kH hL2
    have HR2 := kH (HR1.out.of (hb2.block r HR1.out.lt))
    have HO2 := kH (HO1.out.trans (Only.of_below hb2 _) (Fresh.refl _ _))
    clear HL HR1 HO1 hb2 HO hsz
    by_cases hfit : n <= (gx ys j).2
    ·have hd : (!decide (n <= (gx ys j).2)) = false := by simp [hfit]
     obtain ⟨a0, a1, f0, f1⟩ := HR2.out.get (x0Q (xs := ys) (i := i) (by omega))
     have b0 := hL2.cell 0
     have b1 := hL2.cell 1
     simp only [List.getElem?_toArray, List.getElem?_cons_zero, List.getElem?_cons_succ] at b0 b1
     clear hL2
     have hset : (ys.set i (gx ys j)).take (i + 1) = ys.take i ++ [gx ys j] := by
      rw [List.take_add_one, List.getElem?_set_self (by omega)]
      rw [List.take_set, List.set_eq_of_length_le (by simp; omega)]
      rfl
     have hds : (ys.set i (gx ys j)).drop (j + 1) = ys.drop (j + 1) := by
      apply List.ext_getElem?
      intro m
      simp only [List.getElem?_drop]
      rw [List.getElem?_set_ne (by omega)]
     have HS := kH (kA hset hds)
     clear hset hds
     go_wp2
     go_roundw
     case rel =>
      refine ⟨i + 1, j + 1, ys.set i (gx ys j), by omega, by omega, by go_num, by go_num, by simpa using hyl, ?_, HS.out.2.trans HT.out.2, (HR2.out.sets (by omega) (gx ys j)), ((HO2.out.setCell (.inl (by simp)) _).setCell (.inl (by simp)) _)⟩
      rw [HS.out.1, HT.out.1, <- HY.out.1]
      simp [fitL, hfit]
     case measure => simp [intS]; omega
    ·have hd : (!decide (n <= (gx ys j).2)) = true := by simp [hfit]
     clear hL2
     go_wp2
     go_roundw
     case rel => exact ⟨i, j + 1, ys, by omega, by omega, rfl, by go_num, hyl, by rw [HT.out.1, <- HY.out.1]; simp [fitL, hfit], HT.out.2, HR2.out, HO2.out⟩
     case measure => simp [intS]; omega
   ·obtain rfl : j = xs.length := by omega
    have hsl := fun w => xC9 r xs.length c i hij hcl w
    have hcells : ∀ m, m < (xs.length - i) * 2 -> (wo.cell? ⟨r, i * 2 + m, none⟩).isSome = true /\ wo.frozen? ⟨r, i * 2 + m, none⟩ = false := by
     intro m hm
     obtain ⟨g0, g1, g2, g3⟩ := HR.out.get (x0Q (xs := ys) (i := i + m / 2) (by omega))
     rcases (by omega : m % 2 = 0 ∨ m % 2 = 1) with h | h
     ·rw [show (i + m / 2) * 2 = i * 2 + m by omega] at g0 g2
      exact ⟨by rw [g0]; rfl, g2⟩
     ·rw [show (i + m / 2) * 2 + 1 = i * 2 + m by omega] at g1 g3
      exact ⟨by rw [g1]; rfl, g3⟩
    obtain ⟨vs, -, hclr⟩ := xBX wo r (i * 2) (xs.length - i) (c - i) (by omega) (fun m hm => (hcells m hm).1) (fun m hm => (hcells m hm).2)
    have hhd := fun w => x44 (some ⟨r, 0, none⟩) xs.length c i (by omega) w
    have hadd : (if c = 0 then some (⟨r, 0, none⟩ : Addr) else Option.map (fun x => Addr.add x 0) (some ⟨r, 0, none⟩)) = some ⟨r, 0, none⟩ := by split <;> simp [Addr.add]
    rw [hadd] at hhd
    have hfx : ys.take i = fitL n xs := by have := HY.out.1; rwa [List.take_length] at this
    have hfl : (fitL n xs).length = i := by rw [<- hfx]; simp; omega
    have HX := kH (kA hfx hfl)
    have HRC := kH (HR.out.cleared i vs)
    have HOC := kH (HO.out.grown (x0F r vs (i * 2) wo).1 (fun g e => by injection e with e; subst e; exact .inl (by simp)))
    clear hadd hcells hfx hfl hcap
    generalize wo.setCells r (i * 2) vs = w3 at *
    go_wp2
    go_ret
    have hr := HRC.out
    rw [HX.out.1] at hr
    rw [HX.out.2]
    exact ⟨rfl, hr, HOC.out⟩
end
section
open Go.RowKit Go.BigFrame
def Least (zs : List (Nat × Nat)) (k : Nat) (b : Nat × Nat) : Prop := b ∈ zs /\ ∀ j, j < k -> gx zs j = b ∨ Shorter b (gx zs j)
set_option maxHeartbeats 4000000 in
theorem xOZ {w : World} {r c : Nat} {zs : List (Nat × Nat)} (h : ERow w r zs) (hl : zs.length <= 65536) (h0 : 0 < zs.length) :
  Calls Tryz.prog 276 #[.slice (some ⟨r, 0, none⟩) zs.length c, .func (.func 277) #[] #[]] w fun e' w' => (∃ b, e' = .returned (exV b) /\ Least zs zs.length b) /\ Below w.heap.size w w' := by
 have H := kH h
 have hrl := h.lt
 have c0 := (h.get (x0Q h0)).1
 have c1 := (h.get (x0Q h0)).2.1
 simp only [Nat.zero_mul, Nat.zero_add] at c0 c1
 have d0 : (w.alloc (.cells #[.int .i64 0, .int .i64 0] 198)).cell? ⟨r, 0, none⟩ = some (.int .i64 ((gx zs 0).1 : Int)) := (World.cell?_alloc_lt w _ _ hrl).trans c0
 have d1 : (w.alloc (.cells #[.int .i64 0, .int .i64 0] 198)).cell? ⟨r, 1, none⟩ = some (.int .i64 ((gx zs 0).2 : Int)) := (World.cell?_alloc_lt w _ _ hrl).trans c1
 have hg0 : gx zs 0 ∈ zs := List.mem_of_getElem? (x0Q h0)
 clear h c0 c1
 go_enter Tryz.func276, Tryz.ntmps276
 go_wp2_with fail
 go_loopw [6] (fun i wr => ∃ (k : Nat) (b : Nat × Nat), 1 <= k /\ k <= zs.length /\ i = .int .i64 k /\ Least zs k b /\ Blk wr w.heap.size 198 #[.int .i64 0, .int .i64 0] /\ Blk wr (w.heap.size + 1) 198 #[.int .i64 (b.1 : Int), .int .i64 (b.2 : Int)] /\ Below w.heap.size w wr) (fun i _ => zs.length - (intS i).toNat)
 case atStart =>
  refine ⟨1, gx zs 0, by omega, by omega, by go_num, ⟨hg0, fun j hj => .inl (by rw [show j = 0 by omega])⟩, ?_, ?_, ?_⟩
  ·exact ((Blk.new w 198 _).alloc _)
  ·have := Blk.new (w.alloc (.cells #[.int .i64 0, .int .i64 0] 198)) 198 #[.int .i64 ((gx zs 0).1 : Int), .int .i64 ((gx zs 0).2 : Int)]
   rw [World.size_alloc] at this
   exact this
  ·exact ((Below.refl _ _).alloc (Nat.le_refl _) _).alloc (by rw [World.size_alloc]; omega) _
 case round =>
  obtain ⟨k, b, hk1, hk, rfl, hb, hB0, hB1, hbe⟩ := hrel
  obtain ⟨wo, hwo⟩ : ∃ wo, wo = wr := ⟨_, rfl⟩
  subst hwo
  have hrow : ERow wo r zs := H.out.of (hbe.block r hrl)
  have HL := kH hb
  have HB := kH (kA hB0 (kA hB1 hbe))
  have b0 := hB1.cell 0
  have b1 := hB1.cell 1
  simp only [List.getElem?_toArray, List.getElem?_cons_zero, List.getElem?_cons_succ] at b0 b1
  have HRW := kH hrow
  clear hb hB0 hB1 hbe d0 d1 hg0
  by_cases hlt : k < zs.length
  ·obtain ⟨c0, c1, -, -⟩ := hrow.get (x0Q hlt)
   clear hrow
   have hwk : IntKind.i64.wrap ((k : Int) + 1) = (k : Int) + 1 := by rw [IntKind.wrap_i64]; omega
   have HC := kH (xM1 wo.drew (gx zs k) b)
   unfold exV at HC
   go_wp2_with fail
   refine wp_region_still_tail 6 (by kernel_rfl) (by kernel_rfl) ?_
   simp only [List.take_succ_cons, List.take_zero, List.drop_succ_cons, List.drop_zero]
   repeat still_step
   refine wpStill_nil ?_
   change wpList _ _ _ _ _ wo.drew
   have hb0 : wo.drew.cell? ⟨w.heap.size + 1, 0, none⟩ = some (.int .i64 (b.1 : Int)) := b0
   have hc0 : wo.drew.cell? ⟨r, k * 2, none⟩ = some (.int .i64 ((gx zs k).1 : Int)) := c0
   have hc1 : wo.drew.cell? ⟨r, k * 2 + 1, none⟩ = some (.int .i64 ((gx zs k).2 : Int)) := c1
   have HBd : Hid (Blk wo.drew w.heap.size 198 #[.int .i64 0, .int .i64 0] /\ Blk wo.drew (w.heap.size + 1) 198 #[.int .i64 (b.1 : Int), .int .i64 (b.2 : Int)] /\ Below w.heap.size w wo.drew /\ ERow wo.drew r zs) := kH ⟨HB.out.1.of rfl, HB.out.2.1.of rfl, HB.out.2.2.drew, HRW.out.of rfl⟩
   clear HB HRW b0 b1 c0 c1 hb0 hc0 hc1
   generalize wo.drew = w2 at *
   go_wp2_with fail
   refine HC.out.mono ?_
   rintro e3 w3 ⟨rfl, hb3⟩
   have HX : Hid (Blk w3 w.heap.size 198 #[.int .i64 0, .int .i64 0] /\ Blk w3 (w.heap.size + 1) 198 #[.int .i64 (b.1 : Int), .int .i64 (b.2 : Int)] /\ Below w.heap.size w w3 /\ ERow w3 r zs) := kH ⟨HBd.out.1.of (hb3.block _ HBd.out.1.lt), HBd.out.2.1.of (hb3.block _ HBd.out.2.1.lt), HBd.out.2.2.1.trans (hb3.mono HBd.out.2.2.1.size), HBd.out.2.2.2.of (hb3.block _ HBd.out.2.2.2.lt)⟩
   clear HBd HC hb3
   have HQ := kH (xMS (gx zs k) b)
   by_cases hs : cmpE (gx zs k) b < 0
   ·have hd : decide (cmpE (gx zs k) b < 0) = true := decide_eq_true hs
    have HSh := kH (HQ.out.1 hs)
    obtain ⟨c0, c1, -, -⟩ := HX.out.2.2.2.get (x0Q hlt)
    have b0 := HX.out.2.1.cell 0
    have b1 := HX.out.2.1.cell 1
    simp only [List.getElem?_toArray, List.getElem?_cons_zero, List.getElem?_cons_succ] at b0 b1
    have f0 := HX.out.2.1.frozen 0
    have f1 := HX.out.2.1.frozen 1
    generalize cmpE (gx zs k) b = cv at *
    clear hs
    go_wp2
    go_roundw
    case rel =>
     refine ⟨k + 1, gx zs k, by omega, by omega, by go_num, ⟨List.mem_of_getElem? (x0Q hlt), fun j hj => ?_⟩, ?_, ?_, ?_⟩
     ·by_cases he : j = k
      ·subst he; exact .inl rfl
      ·right
       have h2 := HSh.out
       rcases HL.out.2 j (by omega) with h1 | h1
       ·rw [h1]; exact h2
       ·simp only [Shorter] at h1 h2 ⊢; omega
     ·exact HX.out.1.of ((Below.heap_setCell _ _ _ _ (by show w.heap.size ≠ w.heap.size + 1; omega)).trans (Below.heap_setCell _ _ _ _ (by show w.heap.size ≠ w.heap.size + 1; omega)))
     ·exact (HX.out.2.1.set_ 0 _).set_ 1 _
     ·exact (HX.out.2.2.1.setCell (by show w.heap.size <= w.heap.size + 1; omega) _).setCell (by show w.heap.size <= w.heap.size + 1; omega) _
    case measure => simp [intS]; omega
   ·have hd : decide (cmpE (gx zs k) b < 0) = false := decide_eq_false hs
    have HSh : Hid (¬ Shorter (gx zs k) b) := kH (fun hh => hs (HQ.out.2 hh))
    generalize cmpE (gx zs k) b = cv at *
    clear hs
    go_wp2
    go_roundw
    case rel =>
     refine ⟨k + 1, b, by omega, by omega, by go_num, ⟨HL.out.1, fun j hj => ?_⟩, HX.out.1, HX.out.2.1, HX.out.2.2.1⟩
     by_cases he : j = k
     ·subst he
      by_cases h1 : gx zs j = b
      ·exact .inl h1
      ·right
       have h2 := HSh.out
       have h3 : ¬ ((gx zs j).1 = b.1 /\ (gx zs j).2 = b.2) := fun h => h1 (Prod.ext h.1 h.2)
       simp only [Shorter] at h2 ⊢; omega
     ·exact HL.out.2 j (by omega)
    case measure => simp [intS]; omega
  ·obtain rfl : k = zs.length := by omega
   have a0 := HB.out.1.frozen 0
   have a1 := HB.out.1.frozen 1
   have a2 := HB.out.1.cell 0
   have a3 := HB.out.1.cell 1
   simp only [List.getElem?_toArray, List.getElem?_cons_zero, List.getElem?_cons_succ] at a2 a3
   clear hrow
   have hia : (Tryz.prog.info? 198).map (·.size) = some (#[Value.int .i64 (b.1 : Int), .int .i64 (b.2 : Int)]).size := by kernel_rfl
   have hbk : Blk ((wo.setCell ⟨w.heap.size, 0, none⟩ (.int .i64 (b.1 : Int))).setCell ⟨w.heap.size, 1, none⟩ (.int .i64 (b.2 : Int))) w.heap.size 198 #[.int .i64 (b.1 : Int), .int .i64 (b.2 : Int)] := (HB.out.1.set_ 0 _).set_ 1 _
   have HK := kH hbk
   clear hbk
   go_wp2_with fail
   refine bodyPost_ret (results_cell_row rfl _ _ w.heap.size 198 #[.int .i64 (b.1 : Int), .int .i64 (b.2 : Int)] (0, 0) _ rfl HK.out Tryz.underlying198 rfl hia) rfl ?_
   exact ⟨⟨b, rfl, HL.out⟩, (HB.out.2.2.setCell (Nat.le_refl _) _).setCell (Nat.le_refl _) _⟩
end
section
open Go.RowKit Go.BigFrame
theorem Least.fit {xs : List (Nat × Nat)} {n : Nat} {b : Nat × Nat} (h : Least (fitL n xs) (fitL n xs).length b) : Fit xs n b := by
 have hb := List.mem_filter.1 h.1
 refine ⟨hb.1, by simpa using hb.2, fun q hq hn => ?_⟩
 have hq2 : q ∈ fitL n xs := List.mem_filter.2 ⟨hq, by simpa using hn⟩
 obtain ⟨j, hj, rfl⟩ := List.mem_iff_getElem.1 hq2
 have := h.2 j hj
 rw [x5H (List.getElem?_eq_getElem hj)] at this
 exact this
set_option maxHeartbeats 2000000 in
theorem xDF {w : World} {r c p n : Nat} {xs : List (Nat × Nat)} (h : ERow w r xs) (hl : xs.length <= 65536) (hcl : xs.length <= c) (hp : w.cell? ⟨p, 0, none⟩ = some (.int .i64 (n : Int))) (hpl : p < w.heap.size) (hpr : p ≠ r) (hex : ∃ e ∈ xs, n <= e.2) :
  Calls Tryz.prog 252 #[.slice (some ⟨r, 0, none⟩) xs.length c, fitsV p] w fun e' w' => (∃ b, e' = .returned (exV b) /\ Fit xs n b) /\ Only [r] w w' := by
 have hrl := h.lt
 have hfl : (fitL n xs).length <= xs.length := List.length_filter_le _ _
 have hpos : 0 < (fitL n xs).length := by
  obtain ⟨e, he, hn⟩ := hex
  exact List.length_pos_of_mem (a := e) (List.mem_filter.2 ⟨he, by simpa using hn⟩)
 have z1 : ((w.alloc (.cells #[fitsV p] 325))).heap.size = w.heap.size + 1 := World.size_alloc _ _
 have z2 : ((w.alloc (.cells #[fitsV p] 325)).alloc (.cells #[.int .i64 0, .int .i64 0] 198)).heap.size = w.heap.size + 2 := by rw [World.size_alloc, z1]
 have e1 : ERow ((w.alloc (.cells #[fitsV p] 325)).alloc (.cells #[.int .i64 0, .int .i64 0] 198)) r xs := h.of ((Below.heap_alloc _ _ _ (by omega)).trans (Below.heap_alloc _ _ _ hrl))
 have hq : Blk ((w.alloc (.cells #[fitsV p] 325)).alloc (.cells #[.int .i64 0, .int .i64 0] 198)) w.heap.size 325 #[fitsV p] := (Blk.new w _ _).alloc _
 have hb : Blk ((w.alloc (.cells #[fitsV p] 325)).alloc (.cells #[.int .i64 0, .int .i64 0] 198)) (w.heap.size + 1) 198 #[.int .i64 0, .int .i64 0] := by
  have := Blk.new (w.alloc (.cells #[fitsV p] 325)) 198 #[.int .i64 0, .int .i64 0]
  rwa [z1] at this
 have hc : Cap ((w.alloc (.cells #[fitsV p] 325)).alloc (.cells #[.int .i64 0, .int .i64 0] 198)) p w.heap.size n :=
  ⟨((World.cell?_alloc_lt _ _ _ (by rw [z1]; show p < _; omega)).trans (World.cell?_alloc_lt _ _ _ hpl)).trans hp, hq.cell 0, by rw [z2]; omega, by rw [z2]; omega⟩
 have ho : Below w.heap.size w ((w.alloc (.cells #[fitsV p] 325)).alloc (.cells #[.int .i64 0, .int .i64 0] 198)) := ((Below.refl _ _).alloc (Nat.le_refl _) _).alloc (by rw [z1]; omega) _
 have HD := kH (xG6 e1 hl hcl hc hpr (by omega))
 have HX := kH (kA hb (kA ho hpos))
 clear h hp hex z1 z2 e1 hq hb hc ho hpos
 unfold fitsV notV at HD
 unfold fitsV at HX ⊢
 go_enter Tryz.func252, Tryz.ntmps252
 go_wp2_with fail
 refine HD.out.mono ?_
 rintro e1 w1 ⟨rfl, hr1, ho1⟩
 have HM := kH (xOZ (c := c) hr1 (by omega) HX.out.2.2)
 have hb1 := HX.out.1.of (ho1.block _ HX.out.1.lt (by simp; omega))
 have HB := kH (kA hb1 ((Only.of_below HX.out.2.1 [r]).trans ho1 (Fresh.refl _ _)))
 clear HD hr1 ho1 hb1 HX
 go_wp2_with fail
 refine HM.out.mono ?_
 rintro e2 w2 ⟨⟨b, rfl, hl2⟩, hbe⟩
 have HF := kH hl2.fit
 have hb2 := HB.out.1.of (hbe.block _ HB.out.1.lt)
 have HB2 := kH (kA hb2 (HB.out.2.trans (Only.of_below hbe [r]) (Fresh.refl _ _)))
 have a0 := hb2.frozen 0
 have a1 := hb2.frozen 1
 have a2 := hb2.cell 0
 have a3 := hb2.cell 1
 simp only [List.getElem?_toArray, List.getElem?_cons_zero, List.getElem?_cons_succ] at a2 a3
 have hia : (Tryz.prog.info? 198).map (·.size) = some (#[Value.int .i64 (b.1 : Int), .int .i64 (b.2 : Int)]).size := by kernel_rfl
 have HK : Hid (Blk ((w2.setCell ⟨w.heap.size + 1, 0, none⟩ (.int .i64 (b.1 : Int))).setCell ⟨w.heap.size + 1, 1, none⟩ (.int .i64 (b.2 : Int))) (w.heap.size + 1) 198 #[.int .i64 (b.1 : Int), .int .i64 (b.2 : Int)]) := kH ((hb2.set_ 0 _).set_ 1 _)
 clear HM hl2 hbe hb2 HB
 unfold exV
 go_wp2_with fail
 refine bodyPost_ret (results_cell_row rfl _ _ (w.heap.size + 1) 198 #[.int .i64 (b.1 : Int), .int .i64 (b.2 : Int)] (0, 0) _ rfl HK.out Tryz.underlying198 rfl hia) rfl ?_
 exact ⟨⟨b, rfl, HF.out⟩, (HB2.out.2.setCell (.inr (by show w.heap.size <= w.heap.size + 1; omega)) _).setCell (.inr (by show w.heap.size <= w.heap.size + 1; omega)) _⟩
end
section
open Go.RowKit Go.BigFrame
theorem xE5 {w : World} {base : Nat} {v : Value} {xs : List (Nat × Nat)} (h : OwnE w base v (natE xs)) (hne : xs ≠ []) : ∃ r c, v = .slice (some ⟨r, 0, none⟩) xs.length c /\ base <= r /\ xs.length <= c /\ ERow w r xs := by
 have hl : (natE xs).length = xs.length := by simp [natE]
 rcases h.2 with ⟨rfl, h0⟩ | ⟨g, cap, cur, rfl, hb, hh, hn, hm, hs, ht⟩
 ·rw [hl] at h0
  exact absurd (List.eq_nil_of_length_eq_zero h0) hne
 ·rw [hl] at hn ⊢
  refine ⟨g, cap, rfl, hb, hn, cur, hh, fun k e hk => ?_⟩
  have hk2 : (natE xs)[k]? = some ((e.1 : Int), (e.2 : Int)) := by simp [natE, hk]
  obtain ⟨h1, h2⟩ := xFZ hk2
  rw [<- ht] at h1 h2
  rw [List.getElem?_take] at h1 h2
  constructor
  ·split at h1
   ·simpa using h1
   ·cases h1
  ·split at h2
   ·simpa using h2
   ·cases h2
theorem x4I {a b : List (Nat × Nat)} (h : a.Perm b) : lens a = lens b := (h.map _).sum_nat
theorem xHQ {a : List (Nat × Nat)} {e : Nat × Nat} (h : e ∈ a) : lens a = e.2 + lens (a.erase e) := by
 rw [x4I (List.perm_cons_erase h)]
 simp [lens]
theorem xCC {a : List (Nat × Nat)} (h : 0 < lens a) : 0 < a.length := by
 cases a with
 | nil => simp [lens] at h
 | cons e a => simp
theorem xEL (v : Value) (w : World) : Calls Tryz.prog 213 #[v, .int .i64 0] w fun e' w' => e' = .returned (.slice none 0 0) /\ Below w.heap.size w w' := by
 go_enter Tryz.func213, Tryz.ntmps213
 go_wp2
 go_ret
 exact ⟨rfl, (Below.refl _ _).alloc (Nat.le_refl _) _⟩
def slLen : Value -> Nat
 | .slice _ n _ => n
 | _ => 0
structure Mid (w wr : World) (r c : Nat) (v : Value) (m : Nat) (l ys : List (Nat × Nat)) : Prop where
 at_ : HAt wr (w.heap.size + 1) r c ys
 num : Blk wr w.heap.size 3 #[.int .i64 (m : Int)]
 own : OwnE wr (w.heap.size + 2) v (natE l)
 only : Only [r] w wr
 size : w.heap.size + 2 <= wr.heap.size
theorem OwnE.apart {w w' : World} {base : Nat} {v : Value} {l : List (Int × Int)} (h : OwnE w base v l) (hs : ∀ k, base <= k -> k < w.heap.size -> w'.heap[k]? = w.heap[k]?) : OwnE w' base v l :=
  x05 h fun k hk => hs k (World.ownsRow.lt h k (x00.1 hk)).1 (World.ownsRow.lt h k (x00.1 hk)).2
theorem Mid.below {w wr wx : World} {r c m : Nat} {v : Value} {l ys : List (Nat × Nat)} (h : Mid w wr r c v m l ys) (b : Below wr.heap.size wr wx) : Mid w wx r c v m l ys :=
  ⟨h.at_.below b, h.num.of (b.block _ h.num.lt), h.own.apart fun k _ hk => b.block k hk, h.only.trans (Only.of_below b _) (Fresh.refl _ _), Nat.le_trans h.size b.size⟩
theorem Mid.drew {w wr : World} {r c m : Nat} {v : Value} {l ys : List (Nat × Nat)} (h : Mid w wr r c v m l ys) : Mid w wr.drew r c v m l ys := h.below (Below.refl _ _).drew
theorem Mid.grown {w wr wx : World} {r c m : Nat} {v v' : Value} {l l' ys : List (Nat × Nat)} (h : Mid w wr r c v m l ys) (hr : r < w.heap.size) (g : wr.grownBy wx v.ownBlock) (o : OwnE wx (w.heap.size + 2) v' (natE l')) : Mid w wx r c v' m l' ys := by
 have hv := World.ownsRow.lt h.own
 have hk : ∀ k, k < w.heap.size + 2 -> wx.heap[k]? = wr.heap[k]? := fun k hk => g.block k (Nat.lt_of_lt_of_le hk h.size) (fun e => by have := (hv k e.symm).1; omega)
 exact ⟨h.at_.of (hk _ (by omega)) (hk _ (by omega)), h.num.of (hk _ (by omega)), o, h.only.grown g (fun k e => .inr (by have := (hv k e).1; omega)), Nat.le_trans h.size g.size⟩
theorem Mid.heap {w wr wx : World} {r c m : Nat} {v : Value} {l ys ys' : List (Nat × Nat)} (h : Mid w wr r c v m l ys) (hr : r < w.heap.size) (o : Only [w.heap.size + 1, r] wr wx) (ha : HAt wx (w.heap.size + 1) r c ys') : Mid w wx r c v m l ys' :=
  ⟨ha, h.num.of (o.block _ h.num.lt (by simp; omega)), h.own.apart fun k hk hk2 => o.block k hk2 (by simp; omega), h.only.trans o (fun k hk => by simp at hk ⊢; rcases hk with rfl | rfl <;> omega), Nat.le_trans h.size o.size⟩
theorem Mid.sets {w wr : World} {r c m : Nat} {v : Value} {l ys : List (Nat × Nat)} (h : Mid w wr r c v m l ys) (hr : r < w.heap.size) (m' : Nat) : Mid w (wr.setCell ⟨w.heap.size, 0, none⟩ (.int .i64 (m' : Int))) r c v m' l ys := by
 have hk : ∀ k, k ≠ w.heap.size -> (wr.setCell ⟨w.heap.size, 0, none⟩ (.int .i64 (m' : Int))).heap[k]? = wr.heap[k]? := fun k hk => Below.heap_setCell _ _ _ _ hk
 exact ⟨h.at_.of (hk _ (by omega)) (hk _ (by omega)), h.num.set_ 0 _, h.own.apart fun k h1 _ => hk k (by omega), h.only.setCell (.inr (Nat.le_refl _)) _, by rw [show (wr.setCell ⟨w.heap.size, 0, none⟩ (.int .i64 (m' : Int))).heap.size = wr.heap.size by simp [World.setCell]]; exact h.size⟩
structure Way (n : Nat) (xs : List (Nat × Nat)) (m : Nat) (l ys : List (Nat × Nat)) : Prop where
 from_ : HFrom ys ys.length 0
 pos : 0 < m
 less : m <= n
 room : m <= lens ys
 len : l.length + ys.length = xs.length
 inv : ∀ rest, Chosen ys m rest -> Chosen xs n (l ++ rest)
theorem Way.step {n m : Nat} {xs l ys ys' : List (Nat × Nat)} (h : Way n xs m l ys) (hlt : (gx ys 0).2 < m) (hp : ys'.Perm (ys.erase (gx ys 0))) (hf : HFrom ys' ys'.length 0) : Way n xs (m - (gx ys 0).2) (l ++ [gx ys 0]) ys' := by
 have hyp : 0 < ys.length := xCC (Nat.lt_of_lt_of_le h.pos h.room)
 have ht := h.from_.is_top hyp
 have h1 := xHQ ht.1
 have h2 := x4I hp
 have h3 := hp.length_eq
 have h4 := List.length_erase_of_mem ht.1
 have h5 := h.room
 have h6 := h.len
 have h7 := h.less
 refine ⟨hf, by omega, by omega, by omega, by simp; omega, fun rest hr => ?_⟩
 rw [List.append_assoc]
 exact h.inv _ (.long ht hlt (hr.perm hp))
set_option maxHeartbeats 8000000 in
theorem xGI {w : World} {r c n : Nat} {xs : List (Nat × Nat)} (h : ERow w r xs) (hl : xs.length <= 65536) (hcl : xs.length <= c) (h0 : 0 < n) (hn : n <= lens xs) (hn2 : n <= 65536) :
  Calls Tryz.prog 213 #[.slice (some ⟨r, 0, none⟩) xs.length c, .int .i64 n] w fun e' w' => ∃ v out, e' = .returned v /\ OwnE w' w.heap.size v (natE out) /\ Chosen xs n out /\ Only [r] w w' := by
 have hrl := h.lt
 have z1 : ((w.alloc (.cells #[.int .i64 (n : Int)] 3))).heap.size = w.heap.size + 1 := World.size_alloc _ _
 have z2 : ((w.alloc (.cells #[.int .i64 (n : Int)] 3)).alloc (.cells #[.slice (some ⟨r, 0, none⟩) xs.length c] 320)).heap.size = w.heap.size + 2 := by rw [World.size_alloc, z1]
 have e1 : ERow ((w.alloc (.cells #[.int .i64 (n : Int)] 3)).alloc (.cells #[.slice (some ⟨r, 0, none⟩) xs.length c] 320)) r xs := h.of ((Below.heap_alloc _ _ _ (by omega)).trans (Below.heap_alloc _ _ _ hrl))
 have hb : Blk ((w.alloc (.cells #[.int .i64 (n : Int)] 3)).alloc (.cells #[.slice (some ⟨r, 0, none⟩) xs.length c] 320)) (w.heap.size + 1) 320 #[.slice (some ⟨r, 0, none⟩) xs.length c] := by
  have := Blk.new (w.alloc (.cells #[.int .i64 (n : Int)] 3)) 320 #[.slice (some ⟨r, 0, none⟩) xs.length c]
  rwa [z1] at this
 have hnb : Blk ((w.alloc (.cells #[.int .i64 (n : Int)] 3)).alloc (.cells #[.slice (some ⟨r, 0, none⟩) xs.length c] 320)) w.heap.size 3 #[.int .i64 (n : Int)] := (Blk.new w _ _).alloc _
 have ho : Below w.heap.size w ((w.alloc (.cells #[.int .i64 (n : Int)] 3)).alloc (.cells #[.slice (some ⟨r, 0, none⟩) xs.length c] 320)) := ((Below.refl _ _).alloc (Nat.le_refl _) _).alloc (by rw [z1]; omega) _
 have hat : HAt ((w.alloc (.cells #[.int .i64 (n : Int)] 3)).alloc (.cells #[.slice (some ⟨r, 0, none⟩) xs.length c] 320)) (w.heap.size + 1) r c xs := ⟨hb, e1, hcl, hl⟩
 have HI := kH (xKQ hat)
 have HX := kH (kA hnb (kA ho z2))
 have hd0 : ((n : Int) == 0) = false := by simp; omega
 clear h z1 z2 e1 hb hnb ho hat
 go_enter Tryz.func213, Tryz.ntmps213
 go_wp2_with fail
 refine HI.out.mono ?_
 rintro e1 w1 ⟨rfl, ys1, ha1, hp1, hf1, ho1⟩
 have hnb1 := HX.out.1.of (ho1.block _ HX.out.1.lt (by simp; omega))
 have hw1 : Only [r] w w1 := (Only.of_below HX.out.2.1 [r]).trans ho1 (fun k hk => by simp at hk ⊢; rcases hk with rfl | rfl <;> omega)
 have HS := kH (kA ha1 (kA hp1 (kA hf1 (kA hnb1 hw1))))
 clear HI HX ha1 hp1 hf1 ho1 hnb1 hw1
 go_wp2_with fail
 go_loopw [5] (fun v wr => ∃ (m : Nat) (l ys : List (Nat × Nat)), Mid w wr r c v m l ys /\ Way n xs m l ys) (fun v _ => xs.length + 1 - slLen v)
 case atStart =>
  have hx := HS.out
  exact ⟨n, [], ys1, ⟨hx.1, hx.2.2.2.1, OwnE.nil _ _, hx.2.2.2.2, by have := hx.1.box.lt; omega⟩, ⟨hx.2.2.1, h0, Nat.le_refl _, by rw [x4I hx.2.1]; exact hn, by simp [hx.2.1.length_eq], fun rest hr => hr.perm hx.2.1⟩⟩
 case round =>
  obtain ⟨m, l, ys, hm, hy⟩ := hrel
  obtain ⟨wo, hwo⟩ : ∃ wo, wo = wr := ⟨_, rfl⟩
  subst hwo
  have HM := kH hm
  have HY := kH hy
  have hlen := hy.len
  have hm0 := hy.pos
  have hmn := hy.less
  have hyp : 0 < ys.length := xCC (Nat.lt_of_lt_of_le hy.pos hy.room)
  obtain ⟨A1, cap, rfl, hA1⟩ := hm.own.form
  have hnl : (natE l).length = l.length := by simp [natE]
  rw [hnl] at HM ⊢
  have q0 := hm.num.cell 0
  have q1 := hm.at_.cell
  obtain ⟨c0, c1, -, -⟩ := hm.at_.row.get (x0Q hyp)
  simp only [List.getElem?_toArray, List.getElem?_cons_zero, Nat.zero_mul, Nat.zero_add] at q0 c0 c1
  clear hm hA1 hnl hy HS
  by_cases hlt : (gx ys 0).2 < m
  ·have hd : decide (((gx ys 0).2 : Int) < (m : Int)) = true := decide_eq_true (by omega)
   have HMd := kH HM.out.drew
   have HP := kH (xNN HMd.out.at_ HY.out.from_ hyp)
   have hws : IntKind.i64.wrap ((m : Int) - ((gx ys 0).2 : Int)) = ((m - (gx ys 0).2 : Nat) : Int) := by rw [IntKind.wrap_i64]; omega
   clear HM
   go_wp2_with fail
   go_region
   all_goals
    clear q0 q1 c0 c1
    generalize wo.drew = w1 at *
    go_wp2_with fail
    refine HP.out.mono ?_
    rintro e2 w2 ⟨rfl, ys2, ha2, hp2, hf2, ho2⟩
    have HM2 := kH (HMd.out.heap hrl ho2 ha2)
    have HW := kH (HY.out.step hlt hp2 hf2)
    have hsz2 := HM2.out.size
    have HM4 := kH (HM2.out.below (((Below.refl _ _).alloc (Nat.le_refl _) (.cells #[.int .i64 ((gx ys 0).1 : Int), .int .i64 ((gx ys 0).2 : Int)] 198)).alloc (by rw [World.size_alloc]; omega) (.cells (ext1 (((gx ys 0).1 : Int), ((gx ys 0).2 : Int))).toArray 198)))
    have hex := x3V (w2.alloc (.cells #[.int .i64 ((gx ys 0).1 : Int), .int .i64 ((gx ys 0).2 : Int)] 198)) (((gx ys 0).1 : Int), ((gx ys 0).2 : Int))
    rw [World.size_alloc] at hex
    have hB7 : Blk ((w2.alloc (.cells #[.int .i64 ((gx ys 0).1 : Int), .int .i64 ((gx ys 0).2 : Int)] 198)).alloc (.cells (ext1 (((gx ys 0).1 : Int), ((gx ys 0).2 : Int))).toArray 198)) w2.heap.size 198 #[.int .i64 ((gx ys 0).1 : Int), .int .i64 ((gx ys 0).2 : Int)] := (Blk.new w2 _ _).alloc _
    have hv2 : ∀ k, (Value.slice A1 l.length cap).ownBlock = some k -> k < w2.heap.size := fun k hk => (World.ownsRow.lt HM2.out.own k hk).2
    have HE := kH (kA hex (kA hB7 hv2))
    have hta : ∀ w, (Instr.typeAssert (.iface 198 (.agg #[.int .i64 ((gx ys 0).1 : Int), .int .i64 ((gx ys 0).2 : Int)])) 20 198 false).run Tryz.prog w = .ok (.agg #[.int .i64 ((gx ys 0).1 : Int), .int .i64 ((gx ys 0).2 : Int)]) w := fun w => by kernel_rfl
    have hbe := x2A (((gx ys 0).1 : Int), ((gx ys 0).2 : Int))
    clear HP HMd ha2 hp2 hf2 ho2 hex hB7 hv2
    go_wp2_with (refine x7P (.tmp 23) (.tmp 25) rfl rfl (w.heap.size + 2) (.slice A1 l.length cap) (natE l) rfl HM4.out.own (w2.heap.size + 1 + 1) _ 1 1 [(((gx ys 0).1 : Int), ((gx ys 0).2 : Int))] rfl rfl HE.out.1 (by simp [natE]; omega) (by rw [World.size_alloc, World.size_alloc]; omega) ?_; intro v5 w5 h5 g5 a5; have hm5 : Mid w w5 r c v5 m (l ++ [gx ys 0]) ys2 := HM4.out.grown hrl g5 (by simpa [natE] using h5); have q5 : w5.cell? ⟨w.heap.size, 0, none⟩ = some (.int .i64 (m : Int)) := hm5.num.cell 0; have f5 : w5.frozen? ⟨w.heap.size, 0, none⟩ = false := hm5.num.frozen 0; have b7 : Blk w5 w2.heap.size 198 #[.int .i64 ((gx ys 0).1 : Int), .int .i64 ((gx ys 0).2 : Int)] := HE.out.2.1.of (g5.block _ (by rw [World.size_alloc, World.size_alloc]; omega) (fun e => by have := HE.out.2.2 _ e.symm; omega)); have q7 : w5.cell? ⟨w2.heap.size, 1, none⟩ = some (.int .i64 ((gx ys 0).2 : Int)) := b7.cell 1; have HM5 := kH hm5; clear hm5 h5 g5 a5 b7)
    obtain ⟨A6, cap6, rfl, -⟩ := HM5.out.own.form
    have HM6 := kH (HM5.out.sets hrl (m - (gx ys 0).2))
    go_roundw
    case rel => exact ⟨_, _, _, HM6.out, HW.out⟩
    case measure =>
     simp only [slLen, natE, List.length_map, List.length_append, List.length_singleton]
     omega
  ·have hd : decide (((gx ys 0).2 : Int) < (m : Int)) = false := decide_eq_false (by omega)
   have HMd := kH HM.out.drew
   have HSH := kH (xDF (n := m) HMd.out.at_.row HMd.out.at_.lim HMd.out.at_.cap (HMd.out.num.cell 0) HMd.out.num.lt (by omega) ⟨gx ys 0, (HY.out.from_.is_top hyp).1, by omega⟩)
   unfold fitsV at HSH
   have r1 : wo.drew.cell? ⟨w.heap.size + 1, 0, none⟩ = some (.slice (some ⟨r, 0, none⟩) ys.length c) := q1
   clear HM
   go_wp2_with fail
   go_region
   all_goals
    clear q0 q1 c0 c1
    generalize wo.drew = w1 at *
    go_wp2_with fail
    refine HSH.out.mono ?_
    rintro e2 w2 ⟨⟨b, rfl, hfit⟩, ho2⟩
    have hlim := HMd.out.at_.lim
    have ha2 : HAt w1 (w.heap.size + 1) r c ys := HMd.out.at_
    have HB2 := kH (HMd.out.num.of (ho2.block _ HMd.out.num.lt (by simp; omega)))
    have HO2 := kH (HMd.out.own.apart (w' := w2) fun k hk hk2 => ho2.block k hk2 (by simp; omega))
    have HW2 := kH (HMd.out.only.trans ho2 (Fresh.refl _ _))
    have HF := kH (HY.out.inv _ (.fit hm0 hfit))
    have hsz2 := Nat.le_trans HMd.out.size ho2.size
    have q2 : w2.cell? ⟨w.heap.size, 0, none⟩ = some (.int .i64 (m : Int)) := HB2.out.cell 0
    unfold exV
    have hbe := x2A ((b.1 : Int), (m : Int))
    have hq2 : ∀ o, (w2.alloc o).cell? ⟨w.heap.size, 0, none⟩ = some (.int .i64 (m : Int)) := fun o => (World.cell?_alloc_lt _ _ _ HB2.out.lt).trans q2
    have hex := x3V (w2.alloc (.cells #[.int .i64 (b.1 : Int), .int .i64 (b.2 : Int)] 198)) ((b.1 : Int), (m : Int))
    rw [World.size_alloc] at hex
    have ho4 : OwnE ((w2.alloc (.cells #[.int .i64 (b.1 : Int), .int .i64 (b.2 : Int)] 198)).alloc (.cells (ext1 ((b.1 : Int), (m : Int))).toArray 198)) (w.heap.size + 2) (.slice A1 l.length cap) (natE l) := HO2.out.apart fun k _ hk => (Below.heap_alloc _ _ _ (by rw [World.size_alloc]; omega)).trans (Below.heap_alloc _ _ _ hk)
    have hw4 : Only [r] w ((w2.alloc (.cells #[.int .i64 (b.1 : Int), .int .i64 (b.2 : Int)] 198)).alloc (.cells (ext1 ((b.1 : Int), (m : Int))).toArray 198)) := (HW2.out.alloc _).alloc _
    have HE := kH (kA hex (kA ho4 hw4))
    clear HMd HSH r1 hfit ho2 ha2 hex ho4 hw4
    go_wp2_with (refine x7P (.tmp 34) (.tmp 39) rfl rfl (w.heap.size + 2) (.slice A1 l.length cap) (natE l) rfl HE.out.2.1 (w2.heap.size + 1 + 1) _ 1 1 [((b.1 : Int), (m : Int))] rfl rfl HE.out.1 (by simp [natE]; omega) (by rw [World.size_alloc, World.size_alloc]; omega) ?_; intro v5 w5 h5 g5 a5)
    have ho5 : Only [r] w w5 := HE.out.2.2.grown g5 (fun k e => .inr (by have := (World.ownsRow.lt HO2.out k e).1; omega))
    go_ret
    exact ⟨v5, l ++ [(b.1, m)], rfl, OwnE.weaken (base := w.heap.size + 2) (by simpa [natE] using h5) (by omega), HF.out, ho5⟩
end
section
open Go.RowKit Go.BigFrame
theorem x28 {L : List (Nat × Nat)} (h : ∀ e ∈ L, 1 <= e.2) : L.length <= lens L := by
 induction L with
 | nil => simp
 | cons e L ih =>
  have h1 := h e (List.mem_cons_self ..)
  have h2 := ih (fun q hq => h q (List.mem_cons_of_mem _ hq))
  simp only [lens, List.map_cons, List.sum_cons, List.length_cons] at h2 ⊢
  omega
theorem xFT (fl : List Bool) : (hol 0 fl).length <= cnt fl := by
 rw [<- xCW fl 0]
 exact x28 fun e he => (x7S fl 0 e.1 e.2 he).2.1
def TakeTo (w : World) (g r c : Nat) (A : Option Addr) (fl : List Bool) (n : Int) (e : Ending) (w' : World) : Prop :=
  Only [g, r] w w' ∧
  ((n < 0 /\ e = .returned (.tuple #[.slice none 0 0, errV 1]) /\ SAt w' g r A c fl (cnt fl)) ∨
   ((cnt fl : Int) < n /\ e = .returned (.tuple #[.slice none 0 0, errV 4]) /\ SAt w' g r A c fl (cnt fl)) ∨
   (∃ (k : Nat) (v : Value) (out : List (Nat × Nat)), n = (k : Int) /\ k <= cnt fl /\ e = .returned (.tuple #[v, .nilIface]) /\ OwnE w' w.heap.size v (natE out) /\ Chosen (hol 0 fl) k out /\ SAt w' g r A c (setA fl out false) (cnt (setA fl out false))))
set_option maxHeartbeats 4000000 in
theorem xAW {w : World} {g r c : Nat} {A : Option Addr} {fl : List Bool} (n : Int) (h : SAt w g r A c fl (cnt fl)) (hgr : g ≠ r) :
    Calls Tryz.prog 176 #[.pointer (some ⟨g, 0, none⟩), .int .i64 n] w (TakeTo w g r c A fl n) := by
  have HH := kH h
  have HFR := kH (xJS h.blk)
  have HHO := kH (xGM h)
  have hlim := h.lim
  have hgl := h.blk.lt
  clear h
  by_cases hneg : n < 0
  · have hd : decide (n < 0) = true := decide_eq_true hneg
    go_enter Tryz.func176, Tryz.ntmps176
    go_wp2
    go_ret2
    exact ⟨Only.refl _ _, .inl ⟨hneg, rfl, HH.out⟩⟩
  · have hd : decide (n < 0) = false := decide_eq_false hneg
    by_cases hbig : (cnt fl : Int) < n
    · have hd2 : decide ((cnt fl : Int) < n) = true := decide_eq_true hbig
      go_enter Tryz.func176, Tryz.ntmps176
      go_wp2_with fail
      refine HFR.out.mono ?_
      rintro e w ⟨rfl, rfl⟩
      go_wp2
      go_ret2
      exact ⟨Only.refl _ _, .inr (.inl ⟨hbig, rfl, HH.out⟩)⟩
    · have hd2 : decide ((cnt fl : Int) < n) = false := decide_eq_false hbig
      obtain ⟨k, rfl⟩ : ∃ k : Nat, n = (k : Int) := ⟨n.toNat, by omega⟩
      have hk : k <= cnt fl := by omega
      have hcl := x6J fl
      have hfew := xFT fl
      have hll : lens (hol 0 fl) = cnt fl := xCW fl 0
      have HL := kH hll
      clear hll
      go_enter Tryz.func176, Tryz.ntmps176
      go_wp2_with fail
      refine HFR.out.mono ?_
      rintro e w ⟨rfl, rfl⟩
      go_wp2_with fail
      refine HHO.out.mono ?_
      rintro e1 w1 ⟨v1, rfl, ho1, hb1⟩
      have hs1 := HH.out.of (hb1.block g hgl) (fun _ _ hx => hb1.block r hx.lt)
      have HS1 := kH hs1
      have HB1 := kH (kA ho1 hb1)
      have hcall : Calls Tryz.prog 213 #[v1, .int .i64 k] w1 fun e' w' => ∃ v out, e' = .returned v /\ OwnE w' w.heap.size v (natE out) /\ Chosen (hol 0 fl) k out /\ Below w.heap.size w w' /\ (k = 0 -> v = .slice none 0 0 /\ out = []) := by
        by_cases hk0 : k = 0
        · subst hk0
          refine (xEL v1 w1).mono ?_
          rintro e' w' ⟨rfl, hb⟩
          exact ⟨_, [], rfl, OwnE.nil _ _, .none _, hb1.trans (hb.mono hb1.size), fun _ => ⟨rfl, rfl⟩⟩
        · have hne : hol 0 fl ≠ [] := fun h => by rw [h] at HL; have := HL.out; simp [lens] at this; omega
          obtain ⟨r1, c1, rfl, hr1, hc1, hrow⟩ := xE5 ho1 hne
          refine (xGI hrow (by omega) hc1 (by omega) (by rw [HL.out]; exact hk) (by omega)).mono ?_
          rintro e' w' ⟨v, out, rfl, ho, hch, hon⟩
          exact ⟨v, out, rfl, ho.weaken hb1.size, hch, hb1.trans (hon.below (fun j hj => by simp at hj; omega) (hb1.size)), fun h => absurd h hk0⟩
      have HC := kH hcall
      clear hcall hs1 ho1 hb1
      go_wp2_with fail
      refine HC.out.mono ?_
      rintro e2 w2 ⟨v, out, rfl, ho, hch, hb, hz⟩
      have hrr : r < w.heap.size ∨ k = 0 := by
        rcases HH.out.row with h2 | ⟨_, cs, h2, _⟩
        · exact .inr (by have h0 : cnt fl = 0 := by rw [h2]; rfl
                         omega)
        · exact .inl h2.lt
      have hs2 : SAt w2 g r A c fl (cnt fl) := HH.out.of (hb.block g hgl) (fun _ _ hx => hb.block r hx.lt)
      obtain ⟨A2, c2, rfl, hA2⟩ := ho.form
      have hok := (hch.ok (x4K fl)).1
      have hol : (natE out).length = out.length := by simp [natE]
      have hfw := hch.few.1
      rw [hol] at ho hz ⊢
      have hExt : ExtR w2 w2.heap.size A2 (natE out) := by
        have := ho
        rw [<- hol] at this
        exact OwnE.ext this
      have hfar : ∀ ad, A2 = some ad -> ad.block ≠ g /\ ad.block ≠ r := by
        intro ad e
        subst e
        have h1 := (hA2 ad rfl).1
        refine ⟨by omega, ?_⟩
        rcases hrr with h2 | h2
        · omega
        · have := (hz h2).1
          injection this with h3
          cases h3
      have HSE := kH (x8I out false hok hs2 hgr A2 c2 hExt (Nat.le_refl _) hfar (by omega))
      have HX := kH (kA ho (kA hch hb))
      clear HC hs2 hA2 hok hfw hol hExt hfar ho hch hb HS1 HB1 HHO HFR
      go_wp2_with fail
      refine HSE.out.mono ?_
      rintro e3 w3 ⟨rfl, ho3, hs3⟩
      have hown : OwnE w3 w.heap.size (.slice A2 out.length c2) (natE out) := by
        rcases hrr with h2 | h2
        · exact HX.out.1.apart fun j hj hj2 => ho3.block j hj2 (by simp; omega)
        · obtain ⟨h3, h4⟩ := hz h2
          rw [h3, h4]
          exact OwnE.nil _ _
      have HY := kH (kA hown (kA hs3 ((Only.of_below HX.out.2.2 [g, r]).trans ho3 (Fresh.refl _ _))))
      clear HSE ho3 hs3 hown
      go_wp2
      go_ret2
      exact ⟨HY.out.2.2, .inr (.inr ⟨k, _, out, rfl, hk, rfl, HY.out.1, HX.out.2.1, HY.out.2.1⟩)⟩
end
section
open Go.RowKit Go.ChangeMaps Go.WideElems Go.MapKept
abbrev Key := List UInt8
abbrev KV := List (Key × Value)
def heldR (v : Value) : Option (DataW Value × List MemPlace) := some (.held v, [])
def encKV (p : Key × Value) : Lit × DataW Value := (.string p.1, .held p.2)
def keyV (k : Key) : Value := .string ⟨k.toArray⟩
def aget (l : KV) (k : Key) : Option Value := (l.find? fun p => p.1 == k).map (·.2)
def ains (x : Key × Value) : KV -> KV
 | [] => [x]
 | y :: r => if bytesBefore x.1 y.1 then x :: y :: r else y :: ains x r
def adel (k : Key) (l : KV) : KV := l.filter fun p => !(p.1 == k)
def aput (k : Key) (v : Value) (l : KV) : KV := ains (k, v) (adel k l)
theorem xCM (x : Key × Value) : ∀ l : KV, (ains x l).map encKV = DataW.insert (encKV x) (l.map encKV)
 | [] => rfl
 | y :: r => by
  have ih := xCM x r
  simp only [ains, List.map_cons, DataW.insert]
  have e : (encKV x).1.before (encKV y).1 = bytesBefore x.1 y.1 := rfl
  rw [e]
  split
  ·rfl
  ·rw [List.map_cons, ih]
theorem xC6 (k : Key) (l : KV) : (adel k l).map encKV = delKey (.string k) (l.map encKV) := by
 unfold adel delKey
 rw [List.filter_map]
 rfl
theorem xLY (k : Key) (v : Value) (l : KV) : (aput k v l).map encKV = putKey (.string k) (.held v) (l.map encKV) := by
 unfold aput
 rw [xCM, xC6]
 rfl
theorem x5I (l : KV) (k : Key) (zd : DataW Value) : (DataW.map (l.map encKV)).atKey (.string k) zd = match aget l k with | some v => .held v | none => zd := by
 simp only [DataW.atKey, aget]
 induction l with
 | nil => rfl
 | cons p l ih =>
  simp only [List.map_cons, List.find?_cons]
  have e : (encKV p).1.sameKey (.string k) = (p.1 == k) := rfl
  rw [e]
  cases h : p.1 == k
  ·exact ih
  ·rfl
def SMap (P : Program) (kt : TypeId) (w : World) (b : Nat) (l : KV) : Prop := ∃ es clock, w.heap[b]? = some (.map es clock) /\ Go.WideElems.Fit P kt heldR es clock /\ (es.toList.map (rg P kt heldR)).foldr DataW.insert [] = l.map encKV
section
variable {P : Program} {kt t et : TypeId} {w w' : World} {b : Nat} {l : KV}
theorem SMap.of (h : SMap P kt w b l) (e : w'.heap[b]? = w.heap[b]?) : SMap P kt w' b l := by
 obtain ⟨es, c, h1, h2⟩ := h
 exact ⟨es, c, e.trans h1, h2⟩
theorem SMap.lt (h : SMap P kt w b l) : b < w.heap.size := by
 obtain ⟨es, c, h1, _⟩ := h
 exact (Array.getElem?_eq_some_iff.1 h1).1
theorem SMap.new (w : World) : SMap P kt (w.alloc (.map #[] 0)) w.heap.size [] := ⟨#[], 0, heap_alloc_new w _, ⟨by simp, stamped_empty 0, by simp⟩, rfl⟩
theorem SMap.size (h : SMap P kt w b l) : ∃ es clock, w.heap[b]? = some (.map es clock) /\ es.size = l.length := by
 obtain ⟨es, c, h1, h2, h3⟩ := h
 refine ⟨es, c, h1, ?_⟩
 have := congrArg List.length h3
 rw [length_sorted] at this
 simpa using this
theorem SMap.ne_blk {t : TypeId} {cs : Array Value} {g' : Nat} (h : SMap P kt w b l) (hb : Blk w g' t cs) : b ≠ g' := by
 rintro rfl
 obtain ⟨es, c, h1, _⟩ := h
 unfold Blk at hb
 rw [hb] at h1
 cases h1
theorem SMap.owns (h : SMap P kt w b l) : w.ownsMap P kt heldR b l.length (.map (l.map encKV)) := by
 obtain ⟨es, c, h1, h2, h3⟩ := h
 refine ⟨es, c, h1, h2, ?_, by rw [h3]⟩
 have := congrArg List.length h3
 rw [length_sorted] at this
 simp at this
 omega
theorem x6Z (hk : P.underlying kt = some .string) (k : Key) (hs : k.length <= maxLen) : keyOf P kt (keyV k) = some (.string k) := by
 simp [keyOf, mapKey, hk, keyV, hs]
 exact hs
theorem x34 (hk : P.underlying kt = some .string) (ht : P.underlying t = some (.map kt et)) {z : Value} (hz : (zeroValue et).run P w = .ok z w) (h : SMap P kt w b l) (k : Key) (hs : k.length <= maxLen) :
  (Instr.lookup t (.map (some b)) (keyV k) false).run P w = .ok ((aget l k).getD z) w := by
 obtain ⟨es, c, h1, h2, h3⟩ := h
 have key := x6Z hk k hs
 rcases fit_lookup (WideMaps.string_law hk) ht hz h1 h2 key with ⟨hr, ha⟩ | ⟨v, y, hr, hy, ha, _⟩
 ·have := ha (.lit (.bool true))
  rw [h3, x5I] at this
  cases hg : aget l k with
  | none => simpa using hr
  | some v => rw [hg] at this; cases this
 ·have := ha (.lit (.bool true))
  rw [h3, x5I] at this
  cases hg : aget l k with
  | none =>
   rw [hg] at this
   simp [heldR] at hy
   rw [<- hy] at this
   cases this
  | some u =>
   rw [hg] at this
   simp [heldR] at hy
   rw [<- hy] at this
   injection this with this
   subst this
   simpa using hr
theorem x3G (hk : P.underlying kt = some .string) (ht : P.underlying t = some (.map kt et)) {z : Value} (hz : (zeroValue et).run P w = .ok z w) (h : SMap P kt w b l) (k : Key) (hs : k.length <= maxLen) :
  (Instr.lookup t (.map (some b)) (keyV k) true).run P w = .ok (.tuple #[(aget l k).getD z, .bool (aget l k).isSome]) w := by
 obtain ⟨es, c, h1, h2, h3⟩ := h
 have key := x6Z hk k hs
 rcases fit_lookup_ok (WideMaps.string_law hk) ht hz h1 h2 key with ⟨hr, ha⟩ | ⟨v, y, hr, hy, ha, _⟩
 ·have := ha (.lit (.bool true))
  rw [h3, x5I] at this
  cases hg : aget l k with
  | none => simpa using hr
  | some v => rw [hg] at this; cases this
 ·have := ha (.lit (.bool true))
  rw [h3, x5I] at this
  cases hg : aget l k with
  | none =>
   rw [hg] at this
   simp [heldR] at hy
   rw [<- hy] at this
   cases this
  | some u =>
   rw [hg] at this
   simp [heldR] at hy
   rw [<- hy] at this
   injection this with this
   subst this
   simpa using hr
theorem x50 {w : World} {b : Nat} {es : Array MapEntry} {c : Nat} {o' : Obj} (h : w.heap[b]? = some (.map es c)) : w.grownBy (setBlock w b o') (some b) /\ (setBlock w b o').heap.size = w.heap.size :=
  ⟨⟨rfl, rfl, rfl, by simp [setBlock], fun i _ hi => heap_setBlock_other h _ (fun e => hi (by rw [e]))⟩, by simp [setBlock]⟩
theorem x25 (hk : P.underlying kt = some .string) (ht : P.underlying t = some (.map kt et)) (h : SMap P kt w b l) (k : Key) (hs : k.length <= maxLen) (hroom : l.length < maxLen) (v : Value) :
  ∃ w', (Instr.mapUpdate t (.map (some b)) (keyV k) v).run P w = .ok () w' /\ SMap P kt w' b (aput k v l) /\ w.grownBy w' (some b) /\ w'.heap.size = w.heap.size := by
 obtain ⟨es0, c0, h10, hsz⟩ := h.size
 obtain ⟨es, c, h1, h2, h3⟩ := h
 rw [h1] at h10
 injection h10 with h10
 injection h10 with h10 _
 subst h10
 obtain ⟨es', c', hr, hf, hl, _⟩ := fit_update (R' := heldR) (WideMaps.string_law hk) ht h1 h2 (by omega) (fun _ _ _ h => h) (x6Z hk k hs) (val := v) (yv := (.held v, [])) rfl
 obtain ⟨hg, hz⟩ := x50 (o' := .map es' c') h1
 refine ⟨_, hr, ⟨es', c', heap_setBlock_same h1 _, hf, ?_⟩, hg, hz⟩
 rw [hl, h3, xLY]
theorem x4H {ty : TypeId} (hk : P.underlying kt = some .string) (ht : P.underlying t = some (.map kt et)) (h : SMap P kt w b l) (k : Key) (hs : k.length <= maxLen) :
  ∃ w', (Builtin.delete_ #[t, kt] ty #[.map (some b), keyV k]).run P w = .ok (.tuple #[]) w' /\ SMap P kt w' b (adel k l) /\ w.grownBy w' (some b) /\ w'.heap.size = w.heap.size := by
 obtain ⟨es, c, h1, h2, h3⟩ := h
 obtain ⟨es', hr, hf, hl, _⟩ := fit_delete (R' := heldR) (ty := ty) (WideMaps.string_law hk) ht h1 h2 (fun _ _ _ h => h) (x6Z hk k hs)
 obtain ⟨hg, hz⟩ := x50 (o' := .map es' c) h1
 refine ⟨_, hr, ⟨es', c, heap_setBlock_same h1 _, hf, ?_⟩, hg, hz⟩
 rw [hl, h3, xC6]
end
end
end Go.Proofs.YtajajlbeiikcmaaGreatDoor
