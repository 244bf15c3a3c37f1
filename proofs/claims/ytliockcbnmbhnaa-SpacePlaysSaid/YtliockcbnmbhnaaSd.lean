/-
  Spaces: extents are made free, or not. Conditions: a space stands as it is said to; each extent's blocks are the other way round at its turn; the extents lie in no block of the space.
-/
import Derived.Test.YtliockcbnmbhnaaSc
import Derived.Test.YtliockcbnmbhnaaSq
namespace Go.Proofs.Ytliockcbnmbhnaa
open Go.RowKit Go.BigFrame
set_option linter.unusedSimpArgs false
set_option linter.unusedVariables false
/-- extents, as cells -/
def ext1 (e : Int × Int) : List Value := [.int .i64 e.1, .int .i64 e.2]
def extS (l : List (Int × Int)) : List Value := l.flatMap ext1
def natE (l : List (Nat × Nat)) : List (Int × Int) := l.map fun e => ((e.1 : Int), (e.2 : Int))
theorem ext1_len (e : Int × Int) : (ext1 e).length = 2 := rfl
theorem extS_len (l : List (Int × Int)) : (extS l).length = l.length * 2 := by
  induction l with
  | nil => rfl
  | cons e l ih => simp [extS, ext1] at ih ⊢; omega
theorem extS_at {l : List (Int × Int)} {k : Nat} {e : Int × Int} (h : l[k]? = some e) : (extS l)[k * 2]? = some (.int .i64 e.1) ∧ (extS l)[k * 2 + 1]? = some (.int .i64 e.2) :=
  ⟨by have := flat_at ext1 2 ext1_len l k 0 e h (by omega); simpa [extS, ext1] using this, by have := flat_at ext1 2 ext1_len l k 1 e h (by omega); simpa [extS, ext1] using this⟩
theorem extS_one (l : List (Int × Int)) : ∀ u ∈ extS l, u.oneCell' = true := by
  intro u hu
  obtain ⟨e, _, he⟩ := List.mem_flatMap.1 hu
  simp [ext1] at he
  rcases he with rfl | rfl <;> rfl
/-- the extents behind a slice -/
def ExtR (w : World) (B : Nat) (A : Option Addr) (l : List (Int × Int)) : Prop := Reads w B 2 A l.length (extS l)
theorem ExtR.get {w : World} {B : Nat} {A : Option Addr} {l : List (Int × Int)} (h : ExtR w B A l) {k : Nat} (hk : k < l.length) : ∃ ad e, A = some ad ∧ ad.block < B ∧ l[k]? = some e ∧ w.cell? (ad.add (k * 2)) = some (.int .i64 e.1) ∧ w.cell? ((ad.add (k * 2)).add 1) = some (.int .i64 e.2) := by
  obtain ⟨ad, e, hb, hc⟩ := h.2 (by omega)
  have he := List.getElem?_eq_getElem hk
  obtain ⟨h1, h2⟩ := extS_at he
  exact ⟨ad, _, e, hb, he, hc _ _ h1, by rw [add_of_add]; exact hc _ _ h2⟩
theorem ExtR.only {w w' : World} {B : Nat} {F : List Nat} {A : Option Addr} {l : List (Int × Int)} (h : ExtR w B A l) (ho : Only F w w') (hB : B ≤ w.heap.size) (ha : ∀ ad, A = some ad → ad.block ∉ F) : ExtR w' B A l :=
  ⟨h.1, fun hn => by
    obtain ⟨ad, e, hb, hc⟩ := h.2 hn
    exact ⟨ad, e, hb, fun j u hu => (ho.cell (by rw [block_of_add]; omega) (by rw [block_of_add]; exact ha ad e)).trans (hc j u hu)⟩⟩
theorem run_loadVar_ext (w : World) (p : Addr) (e : Int × Int) (h0 : w.cell? p = some (.int .i64 e.1)) (h1 : w.cell? (p.add 1) = some (.int .i64 e.2)) : (loadVar 45 p).run Try.prog w = .ok (.agg #[.int .i64 e.1, .int .i64 e.2]) w := by
  have hc : ∀ j v, (ext1 e)[j]? = some v → w.cell? (p.add j) = some v := fun j v hj => by
    match j, hj with
    | 0, hj => simp [ext1] at hj; subst hj; simpa [Addr.add] using h0
    | 1, hj => simp [ext1] at hj; subst hj; exact h1
  have hl : (loadCells p 2).run Try.prog w = .ok (ext1 e).toArray w := run_loadCells_list (P := Try.prog) w p (ext1 e) hc
  have hagg : (isAgg 45).run Try.prog w = .ok true w := by
    unfold isAgg
    rw [Sem.run_bind, run_underlying Try.underlying45 w]
    rfl
  have hi : (Try.prog.info? 45).map (·.size) = some 2 := by kernel_rfl
  cases hq : Try.prog.info? 45 with
  | none => simp [hq] at hi
  | some i =>
    have hs : i.size = 2 := by simpa [hq] using hi
    simp [loadVar, Sem.run_bind, hagg, sizeOf, typeInfo, hq, hs, hl]
    rfl
theorem wpList_load_ext {ops : Array Oper} {rest : List Oper} {op : Oper} {a : Act} {w : World} {Q : Exit → Act → World → Prop} (hgd : op.guard = none) (x : Operand) (ho : op.op = .load 45 x)
    (p : Addr) (hx : a.eval x = .pointer (some p)) (e : Int × Int) (h0 : w.cell? p = some (.int .i64 e.1)) (h1 : w.cell? (p.add 1) = some (.int .i64 e.2))
    (h : wpList Try.prog ops Q rest (a.put op.dst (.agg #[.int .i64 e.1, .int .i64 e.2])) w) : wpList Try.prog ops Q (op :: rest) a w :=
  wpList_plain hgd fun _ hK => by
    unfold Oper.wp execOp
    simp only [ho, hx, Instr.loadAt, Instr.sureAddr, Sem.run_bind, Sem.run_pure, Result.andThen_ok, run_loadVar_ext w p e h0 h1]
    exact hK _ _ h
/-- the row of flags of a space, in block r -/
def FRow (w : World) (r : Nat) (A : Option Addr) (fl : List Bool) : Prop := fl = [] ∨ (A = some ⟨r, 0, none⟩ ∧ ∃ cs : Array Value, Blk w r 4 cs ∧ ∀ (j : Nat) (v : Bool), fl[j]? = some v → cs[j]? = some (.bool v))
/-- a space in block g -/
structure SAt (w : World) (g r : Nat) (A : Option Addr) (c : Nat) (fl : List Bool) (left : Int) : Prop where
  blk : Blk w g 62 #[.slice A fl.length c, .int .i64 left]
  cap : fl.length ≤ c
  lim : fl.length ≤ 65536
  row : FRow w r A fl
section
variable {w w' : World} {g r c : Nat} {A : Option Addr} {fl : List Bool} {left : Int}
theorem FRow.of (h : FRow w r A fl) (hk : ∀ t cs, Blk w r t cs → w'.heap[r]? = w.heap[r]?) : FRow w' r A fl := by
  rcases h with h | ⟨h, cs, hb, hc⟩
  · exact .inl h
  · exact .inr ⟨h, cs, hb.of (hk _ _ hb), hc⟩
theorem FRow.reads (h : FRow w r A fl) : Reads w (r + 1) 1 A fl.length (flagsS fl) := by
  rcases h with rfl | ⟨rfl, cs, hb, hc⟩
  · exact ⟨rfl, fun h => by simp at h⟩
  · refine ⟨by simp [flagsS], fun _ => ⟨_, rfl, Nat.lt_succ_self _, fun j u hu => ?_⟩⟩
    rw [add_zero_off, hb.cell]
    simp only [flagsS, List.getElem?_map, Option.map_eq_some_iff] at hu
    obtain ⟨v, hv, rfl⟩ := hu
    exact hc j v hv
theorem FRow.set (h : FRow w r A fl) {j : Nat} (hj : j < fl.length) (b : Bool) : FRow (w.setCell ⟨r, j, none⟩ (.bool b)) r A (fl.set j b) := by
  rcases h with rfl | ⟨h, cs, hb, hc⟩
  · simp at hj
  · refine .inr ⟨h, _, hb.set_ j _, fun k v hv => ?_⟩
    rw [List.getElem?_set] at hv
    have hjc : j < cs.size := by
      have := hc j _ (List.getElem?_eq_getElem hj)
      exact (Array.getElem?_eq_some_iff.1 this).1
    rw [Array.getElem?_setIfInBounds]
    by_cases hk : j = k
    · subst hk
      rw [if_pos rfl, if_pos hj] at hv
      injection hv with hv
      rw [if_pos rfl, if_pos hjc, hv]
    · rw [if_neg hk] at hv
      rw [if_neg hk]
      exact hc k v hv
theorem FRow.cell (h : FRow w r A fl) {j : Nat} (hj : j < fl.length) : A = some ⟨r, 0, none⟩ ∧ (∃ v, w.cell? ⟨r, j, none⟩ = some (.bool v)) ∧ w.frozen? ⟨r, j, none⟩ = false ∧ r < w.heap.size ∧ ∃ cs : Array Value, Blk w r 4 cs := by
  rcases h with rfl | ⟨h, cs, hb, hc⟩
  · simp at hj
  · exact ⟨h, ⟨_, by rw [hb.cell]; exact hc j _ (List.getElem?_eq_getElem hj)⟩, hb.frozen j, hb.lt, cs, hb⟩
theorem SAt.of (h : SAt w g r A c fl left) (hg : w'.heap[g]? = w.heap[g]?) (hr : ∀ t cs, Blk w r t cs → w'.heap[r]? = w.heap[r]?) : SAt w' g r A c fl left := ⟨h.blk.of hg, h.cap, h.lim, h.row.of hr⟩
theorem SAt.below (h : SAt w g r A c fl left) {B : Nat} (hb : Below B w w') (hB : g < B) (hr : r < B) : SAt w' g r A c fl left := h.of (hb.block g hB) (fun _ _ _ => hb.block r hr)
end
set_option maxHeartbeats 1000000 in
theorem sset_any {w : World} {g r c B : Nat} {A : Option Addr} {fl : List Bool} (es : List (Nat × Nat)) (b : Bool) (hok : OkA fl es b) (h : SAt w g r A c fl (cnt fl)) (hgr : g ≠ r) (E : Option Addr) (c' : Nat) (hR : ExtR w B E (natE es)) (hB : B ≤ w.heap.size)
    (hfar : ∀ ad, E = some ad → ad.block ≠ g ∧ ad.block ≠ r) (hle : es.length ≤ 65536) :
    Calls Try.prog 29 #[.pointer (some ⟨g, 0, none⟩), .slice E es.length c', .bool b] w fun e w' => e = .returned (.tuple #[]) ∧ Only [g, r] w w' ∧ SAt w' g r A c (setA fl es b) (cnt (setA fl es b)) := by
  have H0 := Lib.hid h
  have HR := Lib.hid hR
  have HF := Lib.hid hfar
  have HO := Lib.hid hok
  have hn : (natE es).length = es.length := by simp [natE]
  have HN := Lib.hid hn
  clear h hR hfar hok hn
  go_enter Try.func29, Try.ntmps29
  go_wp2
  go_loopw [11] (fun i wr => ∃ k : Nat, k ≤ es.length ∧ i = .int .i64 k ∧ Only [g, r] w wr ∧ SAt wr g r A c (setA fl (es.take k) b) (cnt (setA fl (es.take k) b))) (fun i _ => es.length - (intS i).toNat)
  case atStart => exact ⟨0, by omega, rfl, Only.refl _ _, by simpa [setA] using H0.out⟩
  case round =>
    obtain ⟨k, hk, rfl, ho, hs⟩ := hrel
    obtain ⟨wo, hwo⟩ : ∃ wo, wo = wr := ⟨_, rfl⟩
    subst hwo
    have hRr : ExtR wo B E (natE es) := HR.out.only ho hB (fun ad h => by have := HF.out ad h; simp; omega)
    have HS := Lib.hid hs
    have HOn := Lib.hid ho
    clear hs ho
    by_cases hlt : k < es.length
    · obtain ⟨ad, e, rfl, hab, he, hc0, hc1⟩ := hRr.get (k := k) (by rw [HN.out]; exact hlt)
      clear hRr
      obtain ⟨⟨x, y⟩, hek⟩ : ∃ e, es[k]? = some e := ⟨_, List.getElem?_eq_getElem hlt⟩
      obtain rfl : e = ((x : Int), (y : Int)) := by
        simp only [natE, List.getElem?_map, hek, Option.map_some, Option.some.injEq] at he
        exact he.symm
      have htk := List.take_add_one (l := es) (i := k)
      rw [hek] at htk
      have hall : AllR (setA fl (es.take k) b) x y (!b) := by
        have h := HO.out
        rw [← List.take_append_drop (k + 1) es, htk, OkA.app, OkA.app] at h
        exact h.1.2.1
      have hset : setA fl (es.take (k + 1)) b = setR (setA fl (es.take k) b) x y b := by rw [htk, setA_app]; rfl
      have HT := Lib.hid hset
      have hlim := HS.out.lim
      clear htk he hset hek
      generalize setA fl (es.take k) b = f1 at *
      have HA := Lib.hid hall
      have hxy := hall.1
      have hcl := cnt_le f1
      have hct := cnt_turn hall
      clear hall
      go_wp2_with (refine wpList_load_ext rfl (.tmp 13) rfl _ rfl _ hc0 hc1 ?_)
      have B1 := Blk.new wo 45 #[.int .i64 (x : Int), .int .i64 (y : Int)]
      have S1 : SAt (wo.alloc (.cells #[.int .i64 (x : Int), .int .i64 (y : Int)] 45)) g r A c f1 (cnt f1) := HS.out.of (Below.heap_alloc _ _ _ HS.out.blk.lt) (fun _ _ hb => Below.heap_alloc _ _ _ hb.lt)
      have O1 : Only [g, r] wo (wo.alloc (.cells #[.int .i64 (x : Int), .int .i64 (y : Int)] 45)) := (Only.refl _ _).alloc _
      have hgl := HS.out.blk.lt
      have hs1 : wo.heap.size < (wo.alloc (.cells #[.int .i64 (x : Int), .int .i64 (y : Int)] 45)).heap.size := by simp
      clear hc0 hc1
      generalize wo.alloc (.cells #[.int .i64 (x : Int), .int .i64 (y : Int)] 45) = w1 at *
      have hgb : g ≠ wo.heap.size := by omega
      have HW := Lib.hid (And.intro O1 HOn.out)
      clear O1 HOn
      generalize wo.heap.size = gb at *
      have HB1 := Lib.hid B1
      have HS1 := Lib.hid S1
      clear B1 S1
      go_loopw [8, 17] (fun _ i wi => ∃ j : Nat, j ≤ y ∧ i = .int .i64 j ∧ Only [g, r] w1 wi ∧ Blk wi gb 45 #[.int .i64 (x : Int), .int .i64 (y : Int)] ∧ SAt wi g r A c (setR f1 x j b) (cnt f1)) (fun _ i _ => y - (intS i).toNat)
      case atStart => exact ⟨0, by omega, rfl, Only.refl _ _, HB1.out, by rw [setR_zero]; exact HS1.out⟩
      case round =>
        obtain ⟨j, hj, rfl, ho, hb, hs⟩ := hrel
        by_cases hlj : j < y
        · have hl2 : (setR f1 x j b).length = f1.length := setR_len (by omega) b
          have q0 : wr.cell? ⟨g, 0, none⟩ = some (.slice A f1.length c) := by rw [hs.blk.cell, hl2]; rfl
          have q1 : wr.cell? ⟨gb, 0, none⟩ = some (.int .i64 (x : Int)) := hb.cell 0
          obtain ⟨rfl, ⟨v, q2⟩, q3, hrl, -⟩ := hs.row.cell (j := x + j) (by rw [hl2]; omega)
          have hs2 : (⟨r, 0, none⟩ : Addr).add (x + j) = ⟨r, x + j, none⟩ := add_zero_off _ _
          have q2' : wr.cell? ((⟨r, 0, none⟩ : Addr).add (x + j)) = some (.bool v) := by rw [hs2]; exact q2
          have q3' : wr.frozen? ((⟨r, 0, none⟩ : Addr).add (x + j)) = false := by rw [hs2]; exact q3
          have hix : ((x : Int) + (j : Int)).toNat = x + j := by omega
          have hwx : IntKind.i64.wrap ((x : Int) + (j : Int)) = (x : Int) + (j : Int) := by rw [IntKind.wrap_i64]; omega
          have HSs := Lib.hid hs
          have HBs := Lib.hid hb
          have HOs := Lib.hid ho
          clear hs hb ho
          go_wp2
          go_region
          all_goals go_wp2
          all_goals
            refine ⟨⟨j + 1, by omega, by go_num, (HOs.out.setCell (.inl (by simp)) _).drew, ?_, ?_⟩, by simp [intS]; omega⟩
            · exact HBs.out.far (p := ⟨r, x + j, none⟩) (by show gb ≠ r; exact HBs.out.ne_ ((HSs.out.row.cell (j := x + j) (by rw [hl2]; omega)).2.2.2.2.choose_spec) (by decide)) _
            · have h0 := HSs.out
              refine ⟨?_, by rw [setR_len (by omega)]; have := h0.cap; rw [hl2] at this; exact this, by rw [setR_len (by omega)]; exact hlim, ?_⟩
              · have := h0.blk.far (p := ⟨r, x + j, none⟩) (by show g ≠ r; exact hgr) (.bool b)
                rw [hl2] at this
                rw [setR_len (by omega)]
                exact this
              · have := h0.row.set (j := x + j) (by rw [hl2]; omega) b
                rw [setR_succ (by omega)] at this
                exact this
        · obtain rfl : j = y := by omega
          have hl2 : (setR f1 x j b).length = f1.length := setR_len (by omega) b
          have q1 : wr.cell? ⟨g, 1, none⟩ = some (.int .i64 (cnt f1)) := hs.blk.cell 1
          have q2 : wr.cell? ⟨gb, 1, none⟩ = some (.int .i64 (j : Int)) := hb.cell 1
          have q3 : wr.frozen? ⟨g, 1, none⟩ = false := hs.blk.frozen 1
          have hwa : IntKind.i64.wrap ((cnt f1 : Int) + (j : Int)) = (cnt f1 : Int) + (j : Int) := by rw [IntKind.wrap_i64]; omega
          have hwb : IntKind.i64.wrap ((cnt f1 : Int) - (j : Int)) = (cnt f1 : Int) - (j : Int) := by rw [IntKind.wrap_i64]; omega
          have HSs := Lib.hid hs
          have HBs := Lib.hid hb
          have HOs := Lib.hid ho
          have HCt := Lib.hid hct
          clear hs hb ho hct
          have hend : ∀ (d : Int), d = (cnt (setR f1 x j b) : Int) → Only [g, r] w (wr.setCell ⟨g, 1, none⟩ (.int .i64 d)) ∧ SAt (wr.setCell ⟨g, 1, none⟩ (.int .i64 d)) g r A c (setA fl (es.take (k + 1)) b) (cnt (setA fl (es.take (k + 1)) b)) := by
            intro d hd
            have h0 := HSs.out
            refine ⟨((HW.out.2.trans HW.out.1 (Fresh.refl _ _)).trans (HOs.out.setCell (.inl (by simp)) _) (Fresh.refl _ _)), ?_⟩
            rw [HT.out]
            refine ⟨?_, h0.cap, h0.lim, h0.row.of fun t cs hb => Below.heap_setCell _ _ _ _ (by show r ≠ g; exact fun e => hgr e.symm)⟩
            have := h0.blk.set_ 1 (.int .i64 d)
            rw [hd] at this ⊢
            exact this
          have HE := Lib.hid hend
          clear hend
          cases b
          · go_wp2
            go_region
            all_goals go_wp2
            all_goals
              have h1 := HE.out ((cnt f1 : Int) - (j : Int)) (by have := HCt.out; simp at this; omega)
              exact ⟨⟨k + 1, by omega, by go_num, h1.1.drew, h1.2.of rfl (fun _ _ _ => rfl)⟩, by simp [intS]; omega⟩
          · go_wp2
            go_region
            all_goals go_wp2
            all_goals
              have h1 := HE.out ((cnt f1 : Int) + (j : Int)) (by have := HCt.out; simp at this; omega)
              exact ⟨⟨k + 1, by omega, by go_num, h1.1.drew, h1.2.of rfl (fun _ _ _ => rfl)⟩, by simp [intS]; omega⟩
    · obtain rfl : k = es.length := by omega
      go_wp2
      refine bodyPost_end (results_none rfl _ _ _) rfl ?_
      have h := HS.out
      rw [List.take_length] at h
      exact ⟨rfl, HOn.out, h⟩
end Go.Proofs.Ytliockcbnmbhnaa
