/-
  Spaces: the holes, rising. Conditions: a space stands as it is said to.
-/
import Derived.Test.YtfbpfgbmlbkffaaGreatZb
import Derived.Laws.CopyOwn
import Derived.Laws.Bits64b
import Derived.StillTailTactics

namespace Go.Proofs.YtfbpfgbmlbkffaaGreat
open Go.RowKit Go.BigFrame
set_option linter.unusedSimpArgs false
set_option linter.unusedVariables false
theorem ext_info : (Tryz.prog.info? 81).map (fun i => (i.zero, i.size, i.bytes)) = some (some (.agg #[.int .i64 0, .int .i64 0]), 2, 16) := by kernel_rfl
/-- a row of extents of the call's own -/
def OwnE (w : World) (base : Nat) (v : Value) (l : List (Int × Int)) : Prop := w.ownsRow base 81 2 v l.length (extS l)
section
variable {w w' : World} {base n c : Nat} {A : Option Addr} {v : Value} {l : List (Int × Int)}
theorem OwnE.ext (h : OwnE w base (.slice A l.length c) l) : ExtR w w.heap.size A l := Reads.of_own h
theorem OwnE.weaken {base' : Nat} (h : OwnE w base v l) (hb : base' ≤ base) : OwnE w base' v l := row_weaken h hb
theorem OwnE.form (h : OwnE w base v l) : ∃ (A : Option Addr) (cap : Nat), v = .slice A l.length cap ∧ (∀ a, A = some a → base ≤ a.block ∧ a.block < w.heap.size ∧ a = ⟨a.block, 0, none⟩) := by
  rcases h.2 with ⟨rfl, h0⟩ | ⟨g, cap, cur, rfl, hb, hh, _⟩
  · exact ⟨none, 0, by rw [h0], fun a e => by cases e⟩
  · refine ⟨_, cap, rfl, fun a e => ?_⟩
    injection e with e
    subst e
    exact ⟨hb, Blk.lt (t := 81) hh, rfl⟩
theorem OwnE.below (h : OwnE w base v l) {B : Nat} (hb : Below B w w') (hB : ∀ k, k ∈ rowOf v → k < B) : OwnE w' base v l := row_of h fun k hk => hb.block k (hB k hk)
theorem OwnE.nil (w : World) (base : Nat) : OwnE w base (.slice none 0 0) [] := World.ownsRow_nil w base _ 2
end
theorem app_ext {w : World} {ops : Array Oper} {rest : List Oper} {o : Oper} {a : Act} {Q : Exit → Act → World → Prop} (s x : Operand)
    (hgd : o.guard = none) (ho : o.op = .call { callee := .builtin .append, args := #[s, x], argTypes := #[74, 74] })
    (base : Nat) (v : Value) (l : List (Int × Int)) (hs : a.eval s = v) (hown : OwnE w base v l)
    (B : Nat) (A : Option Addr) (m c : Nat) (news : List (Int × Int)) (hx : a.eval x = .slice A m c) (hm : m = news.length) (hr : ExtR w B A news)
    (hsz : l.length + m ≤ 10000000) (hbase : base ≤ w.heap.size)
    (h : ∀ v' w', OwnE w' base v' (l ++ news) → w.grownBy w' v.ownBlock → (v'.ownBlock = v.ownBlock ∨ v'.ownBlock = some w.heap.size) → wpList Tryz.prog ops Q rest (a.put o.dst v') w') :
    wpList Tryz.prog ops Q (o :: rest) a w := by
  subst hm
  obtain ⟨i0, hi0, hz0, hz1, hz2⟩ := info_parts ext_info
  refine wpList_append_any w hgd s x _ ho base 81 i0 _ 2 16 Tryz.underlying74 hi0 hz0 hz1 hz2 rfl (by omega) v l.length (extS l) hs hown B A news.length c (extS news) hx hr (extS_one _) (by simp only [maxLen]; omega) (by omega) hbase ?_
  intro v' w' h1 h2 h3
  exact h v' w' (by unfold OwnE; rw [extS, List.flatMap_append, List.length_append]; exact h1) h2 h3
theorem build_ext (v : Int × Int) (w : World) : (Instr.buildSlice 74 1 #[(0, .agg #[.int .i64 v.1, .int .i64 v.2])]).run Tryz.prog w = .ok (.slice (some ⟨w.heap.size, 0, none⟩) 1 1) (w.alloc (.cells (ext1 v).toArray 81)) :=
  run_buildSlice_one (size := 2) Tryz.underlying74 (by kernel_rfl) (by omega) (by omega) rfl w
theorem ext_new (w : World) (v : Int × Int) : ExtR (w.alloc (.cells (ext1 v).toArray 81)) (w.heap.size + 1) (some ⟨w.heap.size, 0, none⟩) [v] := by
  have := Reads.newN w (ext1 v) 1 2 81 (0, 0) rfl
  simpa [ExtR, extS] using this
set_option maxHeartbeats 1000000 in
theorem sholes_any {w : World} {g r c : Nat} {A : Option Addr} {fl : List Bool} {left : Int} (h : SAt w g r A c fl left) :
    Calls Tryz.prog 123 #[.pointer (some ⟨g, 0, none⟩)] w fun e w' => ∃ v, e = .returned v ∧ OwnE w' w.heap.size v (natE (hol 0 fl)) ∧ Below w.heap.size w w' := by
  have H := Lib.hid h
  have hlim := h.lim
  have hcap := h.cap
  have hgl := h.blk.lt
  have hrl : ∀ wx, Below w.heap.size w wx → SAt wx g r A c fl left := fun wx hb => h.of (hb.block g hgl) (fun _ _ hx => hb.block r hx.lt)
  have HK := Lib.hid hrl
  clear h hrl
  go_enter Tryz.func123, Tryz.ntmps123
  go_wp2
  go_loopw [3, 4] (fun v i wr => ∃ (k : Nat) (l : List (Int × Int)), k ≤ fl.length + 1 ∧ i = .int .i64 k ∧ OwnE wr w.heap.size v l ∧ l.length ≤ k ∧ Below w.heap.size w wr ∧ l ++ natE (hol k (fl.drop k)) = natE (hol 0 fl)) (fun _ i _ => fl.length + 2 - (intS i).toNat)
  case atStart => exact ⟨0, [], by omega, rfl, OwnE.nil _ _, by simp, Below.refl _ _, by simp⟩
  case round =>
    obtain ⟨k, l, hk, rfl, ho, hlk, hb, hl⟩ := hrel
    obtain ⟨A1, cap, rfl, hA1⟩ := ho.form
    have hs := HK.out _ hb
    have HL := Lib.hid hl
    have HO := Lib.hid ho
    have HB := Lib.hid hb
    have HS := Lib.hid (slen_any hs.blk)
    have hrb := hs.row.reads
    have HF := fun (hk : k ≤ fl.length) => freeFrom_any fl k hk hcap (by omega) hs.blk hrb
    clear hl ho hb hs hA1 hrb
    by_cases hlt : k < fl.length
    · have HF' := Lib.hid (HF (by omega))
      clear HF
      have hru := run_le (fl.drop k)
      rw [List.length_drop] at hru
      have h0 := hol_step0 (fl.drop k) k
      have h1 := hol_step (fl.drop k) k
      rw [List.drop_drop] at h0 h1
      have HH := Lib.hid (And.intro h0 h1)
      clear h0 h1
      generalize runOf (fl.drop k) = n at *
      go_wp2_with fail
      refine HS.out.mono ?_
      rintro e w' ⟨rfl, rfl⟩
      go_wp2_with fail
      refine HF'.out.mono ?_
      rintro e w' ⟨rfl, rfl⟩
      by_cases hn : n = 0
      · have hN := HH.out.1 hn
        have HN := Lib.hid hN
        clear hN HH
        subst hn
        go_wp2
        go_roundw
        case rel => exact ⟨k + 1, l, by omega, by go_num, HO.out, by omega, HB.out, by rw [← HN.out]; exact HL.out⟩
        case measure => simp [intS]; omega
      · have hd : decide ((0 : Int) < (n : Int)) = true := decide_eq_true (by omega)
        have hN := HH.out.2 (by omega)
        have HN := Lib.hid hN
        clear hN HH
        have hbz := HB.out.size
        have hex := ext_new wr ((k : Int), (n : Int))
        have how : OwnE (wr.alloc (.cells (ext1 ((k : Int), (n : Int))).toArray 81)) w.heap.size (.slice A1 l.length cap) l := HO.out.alloc _
        have HX := Lib.hid (And.intro hex how)
        clear hex how
        have hbw : Below w.heap.size w (wr.alloc (.cells (ext1 ((k : Int), (n : Int))).toArray 81)) := HB.out.alloc (by omega) _
        have HBW := Lib.hid hbw
        clear hbw
        have hwx : IntKind.i64.wrap ((k : Int) + (n : Int)) = (k : Int) + (n : Int) := by rw [IntKind.wrap_i64]; omega
        go_wp2_with (refine app_ext (.tmp 17) (.tmp 21) rfl rfl w.heap.size (.slice A1 l.length cap) l rfl HX.out.2 (wr.heap.size + 1) _ 1 1 [((k : Int), (n : Int))] rfl rfl HX.out.1 (by omega) (by simp; omega) ?_; intro v2 w2 h2 g2 a2)
        have hb2 : Below w.heap.size w w2 := HBW.out.grown g2 (by simp; omega) (fun j hj => (World.ownsRow.lt HO.out _ hj).1)
        have HB2 := Lib.hid hb2
        have HO2 := Lib.hid h2
        clear hb2 h2 a2 g2
        go_roundw
        case rel =>
          refine ⟨k + n + 1, l ++ [((k : Int), (n : Int))], by omega, by go_num, HO2.out, by simp; omega, HB2.out, ?_⟩
          have hL := HL.out
          rw [HN.out] at hL
          rw [← hL]
          simp only [natE, List.map_cons, List.append_assoc, List.singleton_append]
          rw [show k + (n + 1) = k + n + 1 by omega]
        case measure => simp [intS]; omega
    · clear HF
      go_wp2_with fail
      refine HS.out.mono ?_
      rintro e w' ⟨rfl, rfl⟩
      go_wp2
      go_ret
      have h := HL.out
      rw [List.drop_of_length_le (by omega)] at h
      simp [hol, natE] at h
      exact ⟨_, rfl, by rw [natE, ← h]; exact HO.out, HB.out⟩
end Go.Proofs.YtfbpfgbmlbkffaaGreat

/-
  Spaces: extents are turned, all of them or none. Conditions: a space stands as it is said to; the extents' numbers are int's; they lie in no block of the space.
-/
namespace Go.Proofs.YtfbpfgbmlbkffaaGreat
open Go.RowKit Go.BigFrame
set_option linter.unusedSimpArgs false
set_option linter.unusedVariables false
def InI (e : Int × Int) : Prop := (-9223372036854775808 ≤ e.1 ∧ e.1 ≤ 9223372036854775807) ∧ -9223372036854775808 ≤ e.2 ∧ e.2 ≤ 9223372036854775807
/-- an extent has blocks, all are there and are b -/
def AllE (fl : List Bool) (e : Int × Int) (b : Bool) : Prop := ∃ x y : Nat, e = ((x : Int), (y : Int)) ∧ 1 ≤ y ∧ AllR fl x y b
/-- what a call of all tells -/
def Told (w : World) (P : Prop) (e : Ending) (w' : World) : Prop := ∃ r : Bool, e = .returned (.bool r) ∧ Below w.heap.size w w' ∧ (r = true ↔ P)
theorem allR_iff {fl : List Bool} {x y : Nat} (h : x + y ≤ fl.length) (b : Bool) : (∀ z ∈ (fl.drop x).take y, z = b) ↔ AllR fl x y b := by
  refine ⟨fun hz => ⟨h, fun j hj hk => ?_⟩, fun ha z hz => ?_⟩
  · have hjl : j < fl.length := by omega
    rw [List.getElem?_eq_getElem hjl, Option.some.injEq]
    refine hz _ ?_
    have : ((fl.drop x).take y)[j - x]? = some fl[j] := by
      rw [List.getElem?_take, if_pos (by omega), List.getElem?_drop, show x + (j - x) = j by omega, List.getElem?_eq_getElem hjl]
    exact List.mem_of_getElem? this
  · obtain ⟨k, hk, rfl⟩ := List.mem_iff_getElem.1 hz
    have hkl : k < y := by simp at hk; omega
    have h1 := ha.2 (x + k) (by omega) (by omega)
    have : ((fl.drop x).take y)[k]? = some (((fl.drop x).take y)[k]) := List.getElem?_eq_getElem hk
    rw [List.getElem?_take, if_pos hkl, List.getElem?_drop, h1] at this
    injection this with this
    exact this.symm
theorem sall_any {w : World} {g r c : Nat} {A : Option Addr} {fl : List Bool} {left : Int} (e : Int × Int) (b : Bool) (hi : InI e) (h : SAt w g r A c fl left) :
    Calls Tryz.prog 125 #[.pointer (some ⟨g, 0, none⟩), .agg #[.int .i64 e.1, .int .i64 e.2], .bool b] w (Told w (AllE fl e b)) := by
  obtain ⟨x, y⟩ := e
  have hlim := h.lim
  by_cases hno : y < 1 ∨ x < 0 ∨ (fl.length : Int) < x + y
  · refine (sall_not fl x y b hi.1.1 hi.1.2 hi.2.1 hi.2.2 (by omega) h.blk hno).mono ?_
    rintro e w' ⟨rfl, hb⟩
    refine ⟨false, rfl, hb, by simp, fun ⟨nx, ny, he, h1, h2⟩ => ?_⟩
    injection he with e1 e2
    have := h2.1
    omega
  · obtain ⟨nx, rfl⟩ : ∃ n : Nat, x = n := ⟨x.toNat, by omega⟩
    obtain ⟨ny, rfl⟩ : ∃ n : Nat, y = n := ⟨y.toNat, by omega⟩
    have hpos : fl ≠ [] := fun e => by subst e; simp at hno; omega
    have hrl : r + 1 ≤ w.heap.size := by
      rcases h.row with e | ⟨_, cs, hb, _⟩
      · exact absurd e hpos
      · exact hb.lt
    refine (sall_in fl nx ny b (by omega) (by omega) h.cap (by omega) h.blk hrl h.row.reads).mono ?_
    rintro e w' ⟨r, rfl, hb, hr⟩
    refine ⟨r, rfl, hb, hr.trans ⟨fun hz => ⟨nx, ny, rfl, by omega, (allR_iff (by omega) b).1 hz⟩, fun ⟨a, d, he, h1, h2⟩ => ?_⟩⟩
    injection he with e1 e2
    obtain rfl : nx = a := by omega
    obtain rfl : ny = d := by omega
    exact (allR_iff (by omega) b).2 h2
theorem run_head_ext (A : Option Addr) (n c i : Nat) (h : i ≤ c) (w : World) : (Instr.slice 74 (.slice A n c) none (some (.int .i64 (i : Int))) none).run Tryz.prog w = .ok (.slice (if c = 0 then A else A.map (·.add 0)) i c) w := by
  have hsz : ∀ w, (sizeOf (Tryz.prog.elem 74)).run Tryz.prog w = .ok 2 w := fun w => by kernel_rfl
  rw [run_slice_h w 74 A n c (by kernel_rfl) .i64 (i : Int) (by omega) (by omega), hsz]
  simp [Result.andThen, sliced]
theorem run_one_ext (A : Option Addr) (n c i : Nat) (h : i + 1 ≤ c) (w : World) : (Instr.slice 74 (.slice A n c) (some (.int .i64 (i : Int))) (some (.int .i64 ((i : Int) + 1))) none).run Tryz.prog w = .ok (.slice (A.map (·.add (i * 2))) 1 (c - i)) w := by
  have hsz : ∀ w, (sizeOf (Tryz.prog.elem 74)).run Tryz.prog w = .ok 2 w := fun w => by kernel_rfl
  rw [run_slice_lh w 74 A n c (by kernel_rfl) .i64 .i64 (i : Int) ((i : Int) + 1) (by omega) (by omega) (by omega), hsz]
  simp only [Result.andThen, sliced, Int.toNat_natCast]
  rw [show ((i : Int) + 1).toNat - i = 1 by omega, if_neg (by omega)]
/-- extents that may be turned: as numbers -/
def TurnOk (fl : List Bool) (es : List (Int × Int)) (b : Bool) (ns : List (Nat × Nat)) : Prop := es = natE ns ∧ (∀ e ∈ ns, 1 ≤ e.2) ∧ OkA fl ns b
theorem TurnOk.snoc {fl : List Bool} {es : List (Int × Int)} {b : Bool} {ns : List (Nat × Nat)} (h : TurnOk fl es b ns) {e : Int × Int} (ha : AllE (setA fl ns b) e (!b)) : ∃ x y : Nat, e = ((x : Int), (y : Int)) ∧ AllR (setA fl ns b) x y (!b) ∧ TurnOk fl (es ++ [e]) b (ns ++ [(x, y)]) := by
  obtain ⟨x, y, rfl, hy, ha⟩ := ha
  refine ⟨x, y, rfl, ha, by rw [h.1]; simp [natE], fun e he => ?_, OkA.app.2 ⟨h.2.2, ha, trivial⟩⟩
  rcases List.mem_append.1 he with he | he
  · exact h.2.1 e he
  · simp at he; subst he; exact hy
theorem TurnOk.stop {fl : List Bool} {es fs : List (Int × Int)} {b : Bool} {ns : List (Nat × Nat)} (h : TurnOk fl es b ns) {e : Int × Int} (ha : ¬ AllE (setA fl ns b) e (!b)) : ∀ ms, ¬ TurnOk fl (es ++ e :: fs) b ms := by
  rintro ms ⟨h1, h2, h3⟩
  have hl : es.length ≤ ms.length := by have := congrArg List.length h1; simp [natE] at this; omega
  have e1 : natE (ms.take es.length) = es := by
    have := congrArg (List.take es.length) h1
    rw [List.take_left' rfl] at this
    rw [natE, List.map_take]
    exact this.symm
  have inj : ∀ a b : List (Nat × Nat), natE a = natE b → a = b := fun a b hab => by
    refine (List.map_inj_right ?_).1 hab
    rintro ⟨p, q⟩ ⟨p', q'⟩ hh
    simp only [Prod.mk.injEq] at hh ⊢
    omega
  have e2 : ms.take es.length = ns := inj _ _ (e1.trans h.1)
  have e3 := congrArg (List.drop es.length) h1
  rw [List.drop_left' rfl, natE, ← List.map_drop] at e3
  cases hd : ms.drop es.length with
  | nil => rw [hd] at e3; simp at e3
  | cons m r =>
    rw [hd] at e3
    simp only [List.map_cons, List.cons.injEq] at e3
    have hm : m ∈ ms := List.mem_of_mem_drop (by rw [hd]; exact List.mem_cons_self ..)
    rw [← List.take_append_drop es.length ms, e2, hd, OkA.app] at h3
    exact ha ⟨m.1, m.2, e3.1, h2 m hm, h3.2.1⟩
/-- what a call of turn comes to -/
def TurnTo (w : World) (g r c : Nat) (A : Option Addr) (fl : List Bool) (es : List (Int × Int)) (b : Bool) (e : Ending) (w' : World) : Prop :=
  Only [g, r] w w' ∧ ((∃ ns, TurnOk fl es b ns ∧ e = .returned .nilIface ∧ SAt w' g r A c (setA fl ns b) (cnt (setA fl ns b))) ∨ ((∀ ns, ¬ TurnOk fl es b ns) ∧ e = .returned (errV 1) ∧ SAt w' g r A c fl (cnt fl)))
set_option maxHeartbeats 1000000 in
theorem sturn_any {w : World} {g r c B : Nat} {A : Option Addr} {fl : List Bool} (es : List (Int × Int)) (b : Bool) (hI : ∀ e ∈ es, InI e) (h : SAt w g r A c fl (cnt fl)) (hgr : g ≠ r) (E : Option Addr) (c' : Nat) (hc' : es.length ≤ c') (hR : ExtR w B E es) (hB : B ≤ w.heap.size)
    (hfar : ∀ ad, E = some ad → ad.block ≠ g ∧ ad.block ≠ r) (hle : es.length ≤ 65536) :
    Calls Tryz.prog 115 #[.pointer (some ⟨g, 0, none⟩), .slice E es.length c', .bool b] w (TurnTo w g r c A fl es b) := by
  have H0 := Lib.hid h
  have HR := Lib.hid hR
  have HF := Lib.hid hfar
  have HI := Lib.hid hI
  clear h hR hfar hI
  go_enter Tryz.func115, Tryz.ntmps115
  go_wp2
  go_loopw [11] (fun i wr => ∃ (k : Nat) (ns : List (Nat × Nat)), k ≤ es.length ∧ i = .int .i64 k ∧ Only [g, r] w wr ∧ TurnOk fl (es.take k) b ns ∧ SAt wr g r A c (setA fl ns b) (cnt (setA fl ns b))) (fun i _ => es.length - (intS i).toNat)
  case atStart => exact ⟨0, [], by omega, rfl, Only.refl _ _, ⟨rfl, by simp, trivial⟩, by simpa [setA] using H0.out⟩
  case round =>
    obtain ⟨k, ns, hk, rfl, ho, ht, hs⟩ := hrel
    obtain ⟨wo, hwo⟩ : ∃ wo, wo = wr := ⟨_, rfl⟩
    subst hwo
    have HS := Lib.hid hs
    have HT := Lib.hid ht
    have HOn := Lib.hid ho
    have hRr : ExtR wo B E es := HR.out.only ho hB (fun ad h => by have := HF.out ad h; simp; omega)
    clear hs ho ht
    by_cases hlt : k < es.length
    · obtain ⟨ad, e, rfl, hab, he, hc0, hc1⟩ := hRr.get hlt
      have HRr := Lib.hid hRr
      have hie : InI e := HI.out e (List.mem_of_getElem? he)
      have htk := List.take_add_one (l := es) (i := k)
      rw [he] at htk
      have hsp : es = es.take k ++ e :: es.drop (k + 1) := by
        have h0 := (List.take_append_drop k es).symm
        rwa [List.drop_eq_getElem_cons hlt, show es[k] = e by rw [List.getElem?_eq_getElem hlt] at he; injection he] at h0
      have HT2 := Lib.hid (And.intro htk (And.intro hsp he))
      have S1 : SAt (wo.alloc (.cells #[.int .i64 e.1, .int .i64 e.2] 81)) g r A c (setA fl ns b) (cnt (setA fl ns b)) := HS.out.of (Below.heap_alloc _ _ _ HS.out.blk.lt) (fun _ _ hb => Below.heap_alloc _ _ _ hb.lt)
      have O1 : Only [g, r] w (wo.alloc (.cells #[.int .i64 e.1, .int .i64 e.2] 81)) := HOn.out.alloc _
      have HS1 := Lib.hid S1
      have HO1 := Lib.hid O1
      have HA := Lib.hid (sall_any e (!b) hie S1)
      clear hRr htk hsp he S1 O1
      go_wp2_with (refine wpList_load_ext rfl (.tmp 14) rfl _ rfl _ hc0 hc1 ?_)
      clear hc0 hc1
      refine HA.out.mono ?_
      rintro e3 w3 ⟨rr, rfl, hb3, hrr⟩
      have S3 : SAt w3 g r A c (setA fl ns b) (cnt (setA fl ns b)) := HS1.out.of (hb3.block g HS1.out.blk.lt) (fun _ _ hx => hb3.block r hx.lt)
      have O3 : Only [g, r] w w3 := HO1.out.trans (Only.of_below hb3 [g, r]) (Fresh.refl _ _)
      have R3 : ExtR w3 B (some ad) es := HR.out.only O3 hB (fun ad h => by have := HF.out ad h; simp; omega)
      have z3 := O3.size
      have HX := Lib.hid (And.intro S3 (And.intro O3 R3))
      have HRR := Lib.hid hrr
      clear HS HS1 HO1 HA HRr S3 O3 R3 hb3 hrr
      cases rr
      · have hno : ¬ AllE (setA fl ns b) e (!b) := fun h => by have := HRR.out.2 h; cases this
        have HN := Lib.hid hno
        clear hno
        have hkl : (es.take k).length = k := by simp; omega
        have hnl : ns.length = k := by have := congrArg List.length HT.out.1; simp [natE] at this; omega
        have hback := HT.out.2.2.back
        have hRk : ExtR w3 B (some ad) (natE ns) := by
          rw [← HT.out.1]
          have := HX.out.2.2
          refine ⟨by rw [extS_len], fun hn => ?_⟩
          obtain ⟨ad', e', hb', hc'⟩ := this.2 (by omega)
          refine ⟨ad', e', hb', fun j u hu => hc' j u ?_⟩
          rw [← List.take_append_drop k es, extS, List.flatMap_append]
          exact (List.getElem?_append_left (show j < (extS (es.take k)).length from (List.getElem?_eq_some_iff.1 hu).1)).trans hu
        have hsl := run_head_ext (some ad) es.length c' k (by omega)
        have hadd : (if c' = 0 then some ad else Option.map (fun x => Addr.add x 0) (some ad)) = some ad := by split <;> simp [Addr.add]
        rw [hadd] at hsl
        have hset := sset_any (B := B) ns (!b) (hback.1) HX.out.1 hgr (some ad) c' hRk (by omega) (fun ad' h => HF.out ad' h) (by omega)
        rw [hback.2, hnl] at hset
        have HSE := Lib.hid hset
        clear hset hback hRk hadd
        go_wp2_with fail
        refine HSE.out.mono ?_
        rintro e4 w4 ⟨rfl, ho4, hs4⟩
        go_wp2
        go_ret
        refine ⟨HX.out.2.1.trans ho4 (Fresh.refl _ _), .inr ⟨?_, rfl, hs4⟩⟩
        rw [HT2.out.2.1]
        exact HT.out.stop HN.out
      · obtain ⟨x, y, rfl, hxy, htn⟩ := HT.out.snoc (HRR.out.1 rfl)
        have hRk : ExtR w3 B (some (ad.add (k * 2))) (natE [(x, y)]) := by
          have := HX.out.2.2
          obtain ⟨ad', e1, e', hb', h0, h1, h2⟩ := this.get hlt
          have he2 := HT2.out.2.2
          rw [h0] at he2
          injection he2 with he2
          subst he2
          injection e' with e'
          subst e'
          refine ⟨rfl, fun _ => ⟨_, rfl, by rw [block_of_add]; exact hb', fun j u hu => ?_⟩⟩
          match j, hu with
          | 0, hu => simp [extS, ext1, natE] at hu; subst hu; simpa [Addr.add] using h1
          | 1, hu => simp [extS, ext1, natE] at hu; subst hu; exact h2
        have hsl := run_one_ext (some ad) es.length c' k (by omega)
        rw [Option.map_some] at hsl
        have hset := sset_any (B := B) [(x, y)] b ⟨hxy, trivial⟩ HX.out.1 hgr (some (ad.add (k * 2))) (c' - k) hRk (by omega) (fun ad' h => by injection h with h; subst h; rw [block_of_add]; exact HF.out ad rfl) (by simp)
        rw [show setA (setA fl ns b) [(x, y)] b = setA fl (ns ++ [(x, y)]) b from (setA_app _ _ _ _).symm] at hset
        have HSE := Lib.hid hset
        have HTN := Lib.hid htn
        have hwk : IntKind.i64.wrap ((k : Int) + 1) = (k : Int) + 1 := by rw [IntKind.wrap_i64]; omega
        clear hset hRk hxy htn
        go_wp2_with fail
        refine HSE.out.mono ?_
        rintro e4 w4 ⟨rfl, ho4, hs4⟩
        have HF4 := Lib.hid (And.intro ho4 hs4)
        clear ho4 hs4
        go_wp2
        go_roundw
        case rel => exact ⟨k + 1, ns ++ [(x, y)], by omega, by go_num, HX.out.2.1.trans HF4.out.1 (Fresh.refl _ _), by rw [HT2.out.1]; exact HTN.out, HF4.out.2⟩
        case measure => simp [intS]; omega
    · obtain rfl : k = es.length := by omega
      clear hRr
      go_wp2
      go_ret
      have h := HT.out
      rw [List.take_length] at h
      exact ⟨HOn.out, .inl ⟨ns, h, rfl, HS.out⟩⟩
end Go.Proofs.YtfbpfgbmlbkffaaGreat

/-
  Spaces: new ones. Conditions: their number is no greater than may be.
-/
namespace Go.Proofs.YtfbpfgbmlbkffaaGreat
open Go.RowKit Go.BigFrame
set_option linter.unusedSimpArgs false
set_option linter.unusedVariables false
set_option maxHeartbeats 1000000 in
theorem mul64_one (n : Nat) (hn : n ≤ 65536) (w : World) : Calls Tryz.prog 120 #[.int .u64 1, .int .u64 n] w fun e w' => e = .returned (.tuple #[.int .u64 0, .int .u64 n]) ∧ w = w' := by
  have hb1 : bits .and .u64 1 4294967295 = 1 := by kernel_rfl
  have hb0 : bits .and .u64 0 4294967295 = 0 := by kernel_rfl
  have hbn : bits .and .u64 (n : Int) 4294967295 = (n : Int) := by
    have h := bits_and_u64_nat n 4294967295 (by omega) (by omega)
    rw [show n &&& 4294967295 = n from Nat.and_two_pow_sub_one_of_lt_two_pow (n := 32) (by omega)] at h
    exact h
  have hd : (n : Int) / 4294967296 = 0 := by omega
  have hwn : IntKind.u64.wrap (n : Int) = (n : Int) := by rw [IntKind.wrap_u64]; omega
  have hw0 : IntKind.u64.wrap 0 = 0 := by kernel_rfl
  go_enter Tryz.func120, Tryz.ntmps120
  go_wp2
  go_ret2
  simp [hb1, hb0, hbn, hd, hwn, hw0]
theorem mul_one_any (n : Nat) (hn : n ≤ 65536) (w : World) : Calls Tryz.prog 99 #[.int .u64 1, .int .u64 n] w fun e w' => e = .returned (.tuple #[.int .u64 0, .int .u64 n]) ∧ w = w' := by
  go_enter Tryz.func99, Tryz.ntmps99
  go_wp2_with fail
  refine (mul64_one n hn w).mono ?_
  rintro e w' ⟨rfl, rfl⟩
  go_wp2
  go_ret2
  exact ⟨rfl, rfl⟩
theorem bool_info : (Tryz.prog.info? 4).map (fun i => (i.zero, i.size, i.bytes)) = some (some (.bool false), 1, 1) := by kernel_rfl
theorem bool_size1 : (Tryz.prog.info? 4).map (·.size) = some 1 := by kernel_rfl
theorem made_sameR (m k : Nat) (v : Value) (hm : 0 < m) : madeCells (List.replicate m v).toArray k = (List.replicate k v).toArray := by
  unfold madeCells
  apply Array.ext
  · simp
  · intro i h1 h2
    have h3 : i % m < m := Nat.mod_lt _ hm
    have h4 : i % (List.replicate m v).toArray.size < (List.replicate m v).toArray.size := by simpa using h3
    rw [Array.getElem_map, Array.getElem_range, getElem!_pos (List.replicate m v).toArray (i % (List.replicate m v).toArray.size) h4]
    simp
theorem made_sameB (k : Nat) (v : Value) : madeCells (List.replicate 1 v).toArray k = (List.replicate k v).toArray := made_sameR 1 k v (by omega)
/-- a row of n flags, the first k true -/
def fillB (n k : Nat) : Array Value := (List.replicate k (Value.bool true) ++ List.replicate (n - k) (Value.bool false)).toArray
theorem fillB_step {n k m : Nat} (h : k + m ≤ n) : ((fillB n k).toList.take k ++ List.replicate m (Value.bool true) ++ (fillB n k).toList.drop (k + m)).toArray = fillB n (k + m) := by
  have e1 : (List.replicate k (Value.bool true) ++ List.replicate (n - k) (Value.bool false)).take k = List.replicate k (Value.bool true) := by simp
  have e2 : (List.replicate k (Value.bool true) ++ List.replicate (n - k) (Value.bool false)).drop (k + m) = List.replicate (n - (k + m)) (Value.bool false) := by
    rw [List.drop_append, List.drop_of_length_le (by simp), List.length_replicate, List.nil_append, List.drop_replicate]
    congr 1; omega
  simp only [fillB, e1, e2, List.replicate_append_replicate]
theorem fillB_full (n : Nat) : fillB n n = (List.replicate n (Value.bool true)).toArray := by simp [fillB]
theorem fillB_cell {w : World} {r n k j : Nat} (h : Blk w r 4 (fillB n k)) (hj : j < k) : w.cell? ⟨r, j, none⟩ = some (.bool true) := by
  rw [h.cell]
  simp only [fillB, List.getElem?_toArray]
  rw [List.getElem?_append_left (by simpa using hj), List.getElem?_replicate, if_pos hj]
theorem run_copy_fill {w : World} {r n k m c2 : Nat} (h : Blk w r 4 (fillB n k)) (hk : 0 < k) (hkn : k < n) (hm : m = Nat.min k (n - k)) :
    (Builtin.copy_ #[30, 30] 3 #[.slice (some ⟨r, k, none⟩) (n - k) (n - k), .slice (some ⟨r, 0, none⟩) k c2]).run Tryz.prog w = .ok (.int .i64 m) (w.setRow r (fillB n (k + m))) := by
  have hmk : m ≤ k ∧ m ≤ n - k := by subst hm; exact ⟨Nat.min_le_left _ _, Nat.min_le_right _ _⟩
  have := run_copy_row (P := Tryz.prog) w 30 30 3 4 r k (n - k) (n - k) ⟨r, 0, none⟩ k c2 (fillB n k) 4 (List.replicate m (.bool true)) Tryz.underlying30 bool_size1 h (by simpa using hm) (fun j v hj => by
    rw [List.getElem?_replicate] at hj
    split at hj
    · injection hj with hj; subst hj; rw [add_zero_off]; exact fillB_cell h (by omega)
    · cases hj) (by simp [fillB]; omega) (fun v hv => by rw [List.eq_of_mem_replicate hv]; rfl)
  rw [this, List.length_replicate, fillB_step (by omega)]
  rfl
theorem blk_setRow {w : World} {r : Nat} {t : TypeId} {cs ds : Array Value} (h : Blk w r t cs) : Blk (w.setRow r ds) r t ds := setRow_heap w r cs ds t (0, 0) h
theorem below_setRowB {w0 w : World} {B r : Nat} (h : Below B w0 w) (hr : B ≤ r) (ds : Array Value) : Below B w0 (w.setRow r ds) := below_setRow h hr ds
set_option maxRecDepth 100000 in
set_option maxHeartbeats 1000000 in
theorem repeat_any (n gx : Nat) (hn : n ≤ 65536) (w : World) (hx : w.cell? ⟨gx, 0, none⟩ = some (.bool true)) (hgx : gx < w.heap.size) :
    Calls Tryz.prog 76 #[.slice (some ⟨gx, 0, none⟩) 1 1, .int .i64 n] w fun e w' => ∃ r, e = .returned (.slice (some ⟨r, 0, none⟩) n n) ∧ w.heap.size ≤ r ∧ Blk w' r 4 (List.replicate n (Value.bool true)).toArray ∧ Below w.heap.size w w' := by
  have hmk : ∀ w : World, (Instr.makeSlice 30 (.int .i64 (n : Int)) (.int .i64 (n : Int))).run Tryz.prog w = .ok (.slice (some ⟨w.heap.size, 0, none⟩) n n) (w.alloc (.cells (fillB n 0) 4)) := by
    intro w
    obtain ⟨i0, hi0, hz0, hz1, hz2⟩ := info_parts bool_info
    have := run_make (P := Tryz.prog) w 30 4 i0 (.bool false) Tryz.underlying30 hi0 hz0 .i64 .i64 n n (by omega) (by omega) (by rw [hz2]; omega) (by omega)
    rw [hz1] at this
    simp only [Int.toNat_natCast, Nat.mul_one] at this
    rw [this]
    have e : (Value.bool false).cells = (List.replicate 1 (Value.bool false)).toArray := rfl
    rw [e, made_sameB]
    simp [fillB]
  have hB0 : Blk (w.alloc (.cells (fillB n 0) 4)) w.heap.size 4 (fillB n 0) := Blk.new _ _ _
  have hx1 : (w.alloc (.cells (fillB n 0) 4)).cell? ⟨gx, 0, none⟩ = some (.bool true) := (World.cell?_alloc_lt w _ _ hgx).trans hx
  have hc1 : ∃ W, W.heap.size = w.heap.size + 1 ∧ Below w.heap.size w W ∧ Blk W w.heap.size 4 (fillB n (min 1 n)) ∧ (Builtin.copy_ #[30, 30] 3 #[.slice (some ⟨w.heap.size, 0, none⟩) n n, .slice (some ⟨gx, 0, none⟩) 1 1]).run Tryz.prog (w.alloc (.cells (fillB n 0) 4)) = .ok (.int .i64 (min 1 n : Nat)) W := by
    by_cases h0 : n = 0
    · subst h0
      exact ⟨_, by simp, (Below.refl _ _).alloc (Nat.le_refl _) _, hB0, run_copy_none _ _ _ _ 4 _ _ _ _ _ _ Tryz.underlying30 bool_size1 rfl⟩
    · have h1 : min 1 n = 1 := by omega
      rw [h1]
      have := run_copy_row (P := Tryz.prog) (w.alloc (.cells (fillB n 0) 4)) 30 30 3 4 w.heap.size 0 n n ⟨gx, 0, none⟩ 1 1 (fillB n 0) 4 (List.replicate 1 (.bool true)) Tryz.underlying30 bool_size1 hB0 (by
        show 1 = Nat.min 1 n
        exact h1.symm) (fun j v hj => by
        match j, hj with
        | 0, hj => simp at hj; subst hj; simpa [Addr.add] using hx1) (by simp [fillB]; omega) (fun v hv => by rw [List.eq_of_mem_replicate hv]; rfl)
      refine ⟨_, ?_, ?_, ?_, this⟩
      · simp [World.setRow]
      · exact below_setRow ((Below.refl _ _).alloc (Nat.le_refl _) _) (Nat.le_refl _) _
      · have e := fillB_step (n := n) (k := 0) (m := 1) (by omega)
        simp only [Nat.zero_add] at e
        rw [List.length_replicate, Nat.zero_add, e]
        exact blk_setRow hB0
  obtain ⟨W, hWs, hWb, hWB, hrun⟩ := hc1
  have HW := Lib.hid (And.intro hWb hWB)
  have hkk : min 1 n ≤ n := Nat.min_le_right _ _
  have hk0 : 0 < n → 0 < min 1 n := by omega
  clear hx hB0 hx1 hWb hWB
  generalize min 1 n = k0 at *
  have hg1 : decide ((9223372036854775807 : Int) < (n : Int)) = false := decide_eq_false (by omega)
  have hg0 : decide ((n : Int) < 0) = false := decide_eq_false (by omega)
  go_enter Tryz.func76, Tryz.ntmps76
  go_wp2_with fail
  refine (mul_one_any n hn w).mono ?_
  rintro e w' ⟨rfl, rfl⟩
  go_wp2_with fail
  generalize hrr : w.heap.size = r at *
  have HRR := Lib.hid hrr
  clear hrr
  go_loopw [8] (fun i wr => ∃ k : Nat, k ≤ n ∧ (0 < n → 0 < k) ∧ i = .int .i64 k ∧ Blk wr r 4 (fillB n k) ∧ Below r w wr) (fun i _ => n - (intS i).toNat)
  case atStart => exact ⟨k0, hkk, hk0, rfl, HW.out.2, HW.out.1⟩
  case round =>
    obtain ⟨k, hk, hkp, rfl, hB, hb⟩ := hrel
    by_cases hlt : k < n
    · have hc := run_copy_fill (c2 := n) hB.drew (hkp (by omega)) hlt rfl
      have HB := Lib.hid (And.intro hB hb)
      have hmp : 0 < Nat.min k (n - k) := Nat.lt_min.2 ⟨hkp (by omega), by omega⟩
      have hmn : k + Nat.min k (n - k) ≤ n := by have : Nat.min k (n - k) ≤ n - k := Nat.min_le_right k (n - k); omega
      clear hB hb
      generalize Nat.min k (n - k) = m at *
      have hne : ¬ (n = k) := by omega
      have hwx : IntKind.i64.wrap ((k : Int) + (m : Int)) = (k : Int) + (m : Int) := by rw [IntKind.wrap_i64]; omega
      go_wp2
      go_region
      all_goals go_wp2
      all_goals
        refine ⟨⟨k + m, hmn, fun _ => by omega, by go_num, ?_, ?_⟩, by simp [intS]; omega⟩
        · exact blk_setRow HB.out.1.drew
        · exact below_setRow (drawn_below HB.out.2 1) (Nat.le_refl _) _
    · obtain rfl : k = n := by omega
      have HB := Lib.hid (And.intro hB hb)
      clear hB hb
      go_wp2
      go_ret
      exact ⟨r, rfl, by rw [HRR.out]; exact Nat.le_refl _, by rw [← fillB_full]; exact HB.out.1, by rw [HRR.out]; exact HB.out.2⟩
end Go.Proofs.YtfbpfgbmlbkffaaGreat

/-
  Spaces: new ones, copies; blocks that are claimed and given back. Conditions: a space stands as it is said to.
-/
namespace Go.Proofs.YtfbpfgbmlbkffaaGreat
open Go.RowKit Go.BigFrame
set_option linter.unusedSimpArgs false
set_option linter.unusedVariables false
theorem snew_bad (n : Int) (h : n < 0 ∨ 65536 < n) (w : World) : Calls Tryz.prog 40 #[.int .i64 n] w fun e w' => e = .returned (.tuple #[.pointer none, errV 1]) ∧ w = w' := by
  by_cases h1 : n < 0
  · have hd : decide (n < 0) = true := decide_eq_true h1
    clear h
    go_enter Tryz.func40, Tryz.ntmps40
    go_wp2
    go_ret2
    exact ⟨rfl, rfl⟩
  · have hd : decide (n < 0) = false := decide_eq_false h1
    have hd2 : decide ((65536 : Int) < n) = true := decide_eq_true (by omega)
    clear h
    go_enter Tryz.func40, Tryz.ntmps40
    go_wp2
    go_ret2
    exact ⟨rfl, rfl⟩
theorem cnt_all (n : Nat) : cnt (List.replicate n true) = n := by simp [cnt, List.countP_replicate]
/-- a space of the call's own -/
def NewS (w : World) (fl : List Bool) (p : Value) (w' : World) : Prop := ∃ g r A c, p = .pointer (some ⟨g, 0, none⟩) ∧ SAt w' g r A c fl (cnt fl) ∧ g ≠ r ∧ w.heap.size ≤ g ∧ w.heap.size ≤ r ∧ Below w.heap.size w w'
set_option maxHeartbeats 1000000 in
theorem snew_any (n : Nat) (hn : n ≤ 65536) (w : World) : Calls Tryz.prog 40 #[.int .i64 n] w fun e w' => ∃ p, e = .returned (.tuple #[p, .nilIface]) ∧ NewS w (List.replicate n true) p w' := by
  have hd : decide ((n : Int) < 0) = false := decide_eq_false (by omega)
  have hd2 : decide ((65536 : Int) < (n : Int)) = false := decide_eq_false (by omega)
  have hbs : ∀ w : World, (Instr.buildSlice 30 1 #[(0, .bool true)]).run Tryz.prog w = .ok (.slice (some ⟨w.heap.size, 0, none⟩) 1 1) (w.alloc (.cells #[.bool true] 4)) := fun w => run_buildSlice_one (size := 1) Tryz.underlying30 (by kernel_rfl) (by omega) (by omega) rfl w
  have HR := Lib.hid (repeat_any n w.heap.size hn (w.alloc (.cells #[.bool true] 4)) ((Blk.new w 4 #[.bool true]).cell 0) (by simp))
  go_enter Tryz.func40, Tryz.ntmps40
  go_wp2_with fail
  refine HR.out.mono ?_
  rintro e w' ⟨r, rfl, hr, hB, hb⟩
  simp only [World.size_alloc] at hr hb
  have H := Lib.hid (And.intro hr (And.intro hB hb))
  clear hr hB hb
  go_wp2
  go_ret2
  obtain ⟨hr, hB, hb⟩ := H.out
  have hs := hb.size
  have hlt := hB.lt
  refine ⟨_, rfl, w'.heap.size, r, some ⟨r, 0, none⟩, n, rfl, ⟨?_, by simp, by simpa using hn, ?_⟩, by omega, by omega, by omega, ?_⟩
  · rw [cnt_all, List.length_replicate]
    exact Blk.new _ _ _
  · refine .inr ⟨rfl, _, hB.alloc _, fun j v hj => ?_⟩
    rw [List.getElem?_replicate] at hj
    split at hj
    · injection hj with hj
      subst hj
      simp [*]
    · cases hj
  · have h1 : Below w.heap.size w (w.alloc (.cells #[.bool true] 4)) := (Below.refl _ _).alloc (Nat.le_refl _) _
    exact (h1.trans (hb.mono (by omega))).alloc (by omega) _
theorem flagsS_one (l : List Bool) : ∀ u ∈ flagsS l, u.oneCell' = true := by
  intro u hu
  obtain ⟨b, _, rfl⟩ := List.mem_map.1 hu
  rfl
theorem frow_of_own {w : World} {base c : Nat} {fl : List Bool} {v : Value} (h : w.ownsRow base 4 1 v fl.length (flagsS fl)) : ∃ A c r, v = .slice A fl.length c ∧ fl.length ≤ c ∧ FRow w r A fl ∧ (fl ≠ [] → base ≤ r ∧ r < w.heap.size) := by
  rcases h.2 with ⟨rfl, h0⟩ | ⟨g, cap, cur, rfl, hb, hh, hn, hm, hs, ht⟩
  · exact ⟨none, 0, 0, by rw [h0], by omega, .inl (List.eq_nil_of_length_eq_zero h0), fun hne => absurd (List.eq_nil_of_length_eq_zero h0) hne⟩
  · refine ⟨_, cap, g, rfl, hn, .inr ⟨rfl, cur, hh, fun j v hj => ?_⟩, fun _ => ⟨hb, Blk.lt (t := 4) hh⟩⟩
    have h1 : (flagsS fl)[j]? = some (.bool v) := by simp [flagsS, hj]
    rw [← ht, List.getElem?_take] at h1
    split at h1
    · simpa using h1
    · cases h1
theorem sclaim_any {w : World} {g r c B : Nat} {A : Option Addr} {fl : List Bool} (es : List (Int × Int)) (hI : ∀ e ∈ es, InI e) (h : SAt w g r A c fl (cnt fl)) (hgr : g ≠ r) (E : Option Addr) (c' : Nat) (hc' : es.length ≤ c') (hR : ExtR w B E es) (hB : B ≤ w.heap.size)
    (hfar : ∀ ad, E = some ad → ad.block ≠ g ∧ ad.block ≠ r) (hle : es.length ≤ 65536) :
    Calls Tryz.prog 89 #[.pointer (some ⟨g, 0, none⟩), .slice E es.length c'] w (TurnTo w g r c A fl es false) := by
  have HC := Lib.hid (sturn_any es false hI h hgr E c' hc' hR hB hfar hle)
  clear hI h hR hfar
  go_enter Tryz.func89, Tryz.ntmps89
  go_wp2_with fail
  refine HC.out.mono ?_
  rintro e w' ⟨ho, ⟨ns, h1, rfl, h2⟩ | ⟨h1, rfl, h2⟩⟩
  · have HX := Lib.hid (And.intro ho (And.intro h1 h2))
    clear ho h1 h2
    go_wp2
    go_ret
    exact ⟨HX.out.1, .inl ⟨ns, HX.out.2.1, rfl, HX.out.2.2⟩⟩
  · have HX := Lib.hid (And.intro ho (And.intro h1 h2))
    clear ho h1 h2
    go_wp2
    go_ret
    exact ⟨HX.out.1, .inr ⟨HX.out.2.1, rfl, HX.out.2.2⟩⟩
theorem sgive_any {w : World} {g r c B : Nat} {A : Option Addr} {fl : List Bool} (es : List (Int × Int)) (hI : ∀ e ∈ es, InI e) (h : SAt w g r A c fl (cnt fl)) (hgr : g ≠ r) (E : Option Addr) (c' : Nat) (hc' : es.length ≤ c') (hR : ExtR w B E es) (hB : B ≤ w.heap.size)
    (hfar : ∀ ad, E = some ad → ad.block ≠ g ∧ ad.block ≠ r) (hle : es.length ≤ 65536) :
    Calls Tryz.prog 110 #[.pointer (some ⟨g, 0, none⟩), .slice E es.length c'] w (TurnTo w g r c A fl es true) := by
  have HC := Lib.hid (sturn_any es true hI h hgr E c' hc' hR hB hfar hle)
  clear hI h hR hfar
  go_enter Tryz.func110, Tryz.ntmps110
  go_wp2_with fail
  refine HC.out.mono ?_
  rintro e w' ⟨ho, ⟨ns, h1, rfl, h2⟩ | ⟨h1, rfl, h2⟩⟩
  · have HX := Lib.hid (And.intro ho (And.intro h1 h2))
    clear ho h1 h2
    go_wp2
    go_ret
    exact ⟨HX.out.1, .inl ⟨ns, HX.out.2.1, rfl, HX.out.2.2⟩⟩
  · have HX := Lib.hid (And.intro ho (And.intro h1 h2))
    clear ho h1 h2
    go_wp2
    go_ret
    exact ⟨HX.out.1, .inr ⟨HX.out.2.1, rfl, HX.out.2.2⟩⟩
end Go.Proofs.YtfbpfgbmlbkffaaGreat

/-
  Numbers compared, the first that is not nought. No condition but the sizes.
-/
namespace Go.Proofs.YtfbpfgbmlbkffaaGreat
open Go.RowKit Go.BigFrame
set_option linter.unusedSimpArgs false
set_option linter.unusedVariables false
/-- -1, 0 or 1 -/
def cmpI (a b : Int) : Int := if a < b then -1 else if b < a then 1 else 0
theorem nan_any (a : Int) (w : World) : Calls Tryz.prog 159 #[.int .i64 a] w fun e w' => e = .returned (.bool false) ∧ w' = w := by
  go_enter Tryz.func159, Tryz.ntmps159
  go_wp2
  go_ret
  simp
theorem cmp_any (a b : Int) (w : World) : Calls Tryz.prog 155 #[.int .i64 a, .int .i64 b] w fun e w' => e = .returned (.int .i64 (cmpI a b)) ∧ w' = w := by
  by_cases h1 : a < b
  · have hd1 : decide (a < b) = true := decide_eq_true h1
    have hc : cmpI a b = -1 := if_pos h1
    rw [hc]
    go_enter Tryz.func155, Tryz.ntmps155
    go_wp2_with (first | (go_at_call 159; refine (nan_any _ _).mono ?_; rintro e w' ⟨rfl, rfl⟩))
    go_ret
    exact ⟨rfl, rfl⟩
  · have hd1 : decide (a < b) = false := decide_eq_false h1
    by_cases h2 : b < a
    · have hd2 : decide (b < a) = true := decide_eq_true h2
      have hc : cmpI a b = 1 := by rw [cmpI, if_neg h1, if_pos h2]
      rw [hc]
      go_enter Tryz.func155, Tryz.ntmps155
      go_wp2_with (first | (go_at_call 159; refine (nan_any _ _).mono ?_; rintro e w' ⟨rfl, rfl⟩))
      go_ret
      exact ⟨rfl, rfl⟩
    · have hd2 : decide (b < a) = false := decide_eq_false h2
      have hc : cmpI a b = 0 := by rw [cmpI, if_neg h1, if_neg h2]
      rw [hc]
      go_enter Tryz.func155, Tryz.ntmps155
      go_wp2_with (first | (go_at_call 159; refine (nan_any _ _).mono ?_; rintro e w' ⟨rfl, rfl⟩))
      go_ret
      exact ⟨rfl, rfl⟩
def orI (a b : Int) : Int := if a = 0 then b else a
theorem or_any (a b : Int) (g : Nat) (w : World) (h0 : w.cell? ⟨g, 0, none⟩ = some (.int .i64 a)) (h1 : w.cell? ⟨g, 1, none⟩ = some (.int .i64 b)) : Calls Tryz.prog 154 #[.slice (some ⟨g, 0, none⟩) 2 2] w fun e w' => e = .returned (.int .i64 (orI a b)) ∧ w' = w := by
  by_cases ha : a = 0
  · subst ha
    by_cases hb : b = 0
    · subst hb
      go_enter Tryz.func154, Tryz.ntmps154
      go_wp2
      go_rounds 3
      go_ret
      exact ⟨rfl, rfl⟩
    · have hd : (b == 0) = false := by simpa using hb
      have hd2 : (b != 0) = true := by simpa using hb
      go_enter Tryz.func154, Tryz.ntmps154
      go_wp2
      go_rounds 2
      go_ret
      exact ⟨rfl, rfl⟩
  · have hd : (a == 0) = false := by simpa using ha
    have hd2 : (a != 0) = true := by simpa using ha
    rw [show orI a b = a from if_neg ha]
    go_enter Tryz.func154, Tryz.ntmps154
    go_wp2
    go_rounds 1
    go_ret
    exact ⟨rfl, rfl⟩
end Go.Proofs.YtfbpfgbmlbkffaaGreat

/-
  A heap of holes: which of two comes first. Conditions: the row of holes reads as it is said to.
-/
namespace Go.Proofs.YtfbpfgbmlbkffaaGreat
open Go.RowKit Go.BigFrame
set_option linter.unusedSimpArgs false
set_option linter.unusedVariables false
/-- the holes of a row in block r -/
def ERow (w : World) (r : Nat) (xs : List (Nat × Nat)) : Prop := ∃ cs : Array Value, Blk w r 81 cs ∧ ∀ (k : Nat) (e : Nat × Nat), xs[k]? = some e → cs[k * 2]? = some (.int .i64 (e.1 : Int)) ∧ cs[k * 2 + 1]? = some (.int .i64 (e.2 : Int))
section
variable {w w' : World} {r : Nat} {xs : List (Nat × Nat)}
theorem ERow.get (h : ERow w r xs) {k : Nat} {e : Nat × Nat} (hk : xs[k]? = some e) : w.cell? ⟨r, k * 2, none⟩ = some (.int .i64 (e.1 : Int)) ∧ w.cell? ⟨r, k * 2 + 1, none⟩ = some (.int .i64 (e.2 : Int)) ∧ w.frozen? ⟨r, k * 2, none⟩ = false ∧ w.frozen? ⟨r, k * 2 + 1, none⟩ = false := by
  obtain ⟨cs, hb, hc⟩ := h
  obtain ⟨h1, h2⟩ := hc k e hk
  exact ⟨(hb.cell _).trans h1, (hb.cell _).trans h2, hb.frozen _, hb.frozen _⟩
theorem ERow.of (h : ERow w r xs) (e : w'.heap[r]? = w.heap[r]?) : ERow w' r xs := ⟨h.choose, h.choose_spec.1.of e, h.choose_spec.2⟩
theorem ERow.lt (h : ERow w r xs) : r < w.heap.size := h.choose_spec.1.lt
end
/-- does e come first? -/
def lgB (e q : Nat × Nat) : Bool := decide (orI (cmpI (q.2 : Int) (e.2 : Int)) (cmpI (e.1 : Int) (q.1 : Int)) < 0)
theorem lgB_iff (e q : Nat × Nat) : lgB e q = true ↔ Longer e q := by
  simp only [lgB, decide_eq_true_eq, orI, cmpI, Longer]
  by_cases h1 : (q.2 : Int) < (e.2 : Int)
  · simp only [h1, if_true]; simp; omega
  · by_cases h2 : (e.2 : Int) < (q.2 : Int)
    · simp only [h1, h2, if_true, if_false]; simp; omega
    · simp only [h1, h2, if_false, if_true]
      by_cases h3 : (e.1 : Int) < (q.1 : Int)
      · simp only [h3, if_true]; simp; omega
      · by_cases h4 : (q.1 : Int) < (e.1 : Int)
        · simp only [h3, h4, if_true, if_false]; simp; omega
        · simp only [h3, h4, if_false]; simp; omega
set_option maxRecDepth 100000 in
set_option maxHeartbeats 2000000 in
theorem less_any {w : World} {r n c i j : Nat} {xs : List (Nat × Nat)} (h : ERow w r xs) (e q : Nat × Nat) (hi : xs[i]? = some e) (hj : xs[j]? = some q) (hin : i < n) (hjn : j < n) (hn : n ≤ 1000000) :
    Calls Tryz.prog 179 #[.slice (some ⟨r, 0, none⟩) n c, .int .i64 i, .int .i64 j] w fun e' w' => e' = .returned (.bool (lgB e q)) ∧ Below w.heap.size w w' := by
  obtain ⟨a0, a1, -, -⟩ := h.get hi
  obtain ⟨b0, b1, -, -⟩ := h.get hj
  clear h hi hj
  go_enter Tryz.func179, Tryz.ntmps179
  go_wp2_with fail
  refine wp_region_still_tail 22 (by kernel_rfl) (by kernel_rfl) ?_
  simp only [List.take_succ_cons, List.take_zero, List.drop_succ_cons, List.drop_zero]
  repeat still_step
  still_call (cmp_any _ _ _)
  repeat still_step
  still_call (cmp_any _ _ _)
  repeat still_step
  refine wpStill_nil ?_
  change wpList _ _ _ _ _ w.drew
  have hb : Below w.heap.size w w.drew := (Below.refl _ _).drew
  have HL : Hid (lgB e q = decide (orI (cmpI (q.2 : Int) (e.2 : Int)) (cmpI (e.1 : Int) (q.1 : Int)) < 0)) := Lib.hid rfl
  generalize cmpI (q.2 : Int) (e.2 : Int) = ca at *
  generalize cmpI (e.1 : Int) (q.1 : Int) = cb at *
  generalize w.drew = w2 at *
  clear a0 a1 b0 b1
  have HO := Lib.hid (or_any ca cb w2.heap.size (w2.alloc (.cells #[.int .i64 ca, .int .i64 cb] 3)) ((Blk.new w2 3 #[.int .i64 ca, .int .i64 cb]).cell 0) ((Blk.new w2 3 #[.int .i64 ca, .int .i64 cb]).cell 1))
  have HB := Lib.hid (hb.alloc hb.size (.cells #[.int .i64 ca, .int .i64 cb] 3))
  clear hb
  go_wp2_with fail
  refine HO.out.mono ?_
  rintro e3 w3 ⟨rfl, rfl⟩
  go_wp2
  go_ret
  rw [HL.out]
  exact ⟨rfl, HB.out⟩
end Go.Proofs.YtfbpfgbmlbkffaaGreat

/-
  A heap of holes: two of them change places; how many there are; the last one goes. Conditions: the row of holes reads as it is said to.
-/
namespace Go.Proofs.YtfbpfgbmlbkffaaGreat
open Go.RowKit Go.BigFrame
set_option linter.unusedSimpArgs false
set_option linter.unusedVariables false
/-- two change places -/
def swapL (xs : List (Nat × Nat)) (i j : Nat) : List (Nat × Nat) := (xs.set i (xs.getD j (0, 0))).set j (xs.getD i (0, 0))
theorem ERow.sets {w : World} {r : Nat} {xs : List (Nat × Nat)} (h : ERow w r xs) {i : Nat} (hi : i < xs.length) (e : Nat × Nat) : ERow ((w.setCell ⟨r, i * 2, none⟩ (.int .i64 (e.1 : Int))).setCell ⟨r, i * 2 + 1, none⟩ (.int .i64 (e.2 : Int))) r (xs.set i e) := by
  obtain ⟨cs, hb, hc⟩ := h
  refine ⟨_, (hb.set_ (i * 2) _).set_ (i * 2 + 1) _, fun k q hk => ?_⟩
  have h0 := hc i _ (List.getElem?_eq_getElem hi)
  have l0 := (Array.getElem?_eq_some_iff.1 h0.1).1
  have l1 := (Array.getElem?_eq_some_iff.1 h0.2).1
  rw [List.getElem?_set] at hk
  simp only [Array.getElem?_setIfInBounds, Array.size_setIfInBounds]
  by_cases he : i = k
  · subst he
    rw [if_pos rfl, if_pos hi] at hk
    injection hk with hk
    subst hk
    constructor
    · rw [if_neg (by omega), if_pos rfl, if_pos l0]
    · rw [if_pos rfl, if_pos l1]
  · rw [if_neg he] at hk
    have := hc k q hk
    constructor
    · rw [if_neg (by omega), if_neg (by omega)]; exact this.1
    · rw [if_neg (by omega), if_neg (by omega)]; exact this.2
set_option maxRecDepth 100000 in
set_option maxHeartbeats 2000000 in
theorem swap_any {w : World} {r n c i j : Nat} {xs : List (Nat × Nat)} (h : ERow w r xs) (hij : i ≠ j) (hi : i < xs.length) (hj : j < xs.length) (hn : xs.length ≤ n) (hn2 : n ≤ 1000000) :
    Calls Tryz.prog 180 #[.slice (some ⟨r, 0, none⟩) n c, .int .i64 i, .int .i64 j] w fun e' w' => e' = .returned (.tuple #[]) ∧ ERow w' r (swapL xs i j) ∧ Only [r] w w' ∧ w'.heap.size = w.heap.size := by
  obtain ⟨e, he⟩ : ∃ e, xs[i]? = some e := ⟨_, List.getElem?_eq_getElem hi⟩
  obtain ⟨q, hq⟩ : ∃ q, xs[j]? = some q := ⟨_, List.getElem?_eq_getElem hj⟩
  obtain ⟨a0, a1, a2, a3⟩ := h.get he
  obtain ⟨b0, b1, b2, b3⟩ := h.get hq
  have H := Lib.hid h
  have HS : Hid (swapL xs i j = (xs.set i q).set j e) := Lib.hid (by simp only [swapL, List.getD_eq_getElem?_getD, he, hq, Option.getD_some])
  clear h he hq
  go_enter Tryz.func180, Tryz.ntmps180
  go_wp2
  go_region
  all_goals go_wp2
  all_goals
    refine bodyPost_end (results_none rfl _ _ _) rfl ?_
    rw [HS.out]
    refine ⟨rfl, ?_, ?_, ?_⟩
    · have h1 := H.out.sets hi q
      exact (h1.sets (i := j) (by simpa using hj) e).of rfl
    · exact (((((Only.refl [r] w).setCell (.inl (by simp)) _).setCell (.inl (by simp)) _).setCell (.inl (by simp)) _).setCell (.inl (by simp)) _).drew
    · simp [World.setCell]
set_option maxRecDepth 100000 in
set_option maxHeartbeats 2000000 in
theorem swap_same {w : World} {r n c i : Nat} {xs : List (Nat × Nat)} (h : ERow w r xs) (hi : i < xs.length) (hn : xs.length ≤ n) (hn2 : n ≤ 1000000) :
    Calls Tryz.prog 180 #[.slice (some ⟨r, 0, none⟩) n c, .int .i64 i, .int .i64 i] w fun e' w' => e' = .returned (.tuple #[]) ∧ ERow w' r xs ∧ Only [r] w w' ∧ w'.heap.size = w.heap.size := by
  obtain ⟨e, he⟩ : ∃ e, xs[i]? = some e := ⟨_, List.getElem?_eq_getElem hi⟩
  obtain ⟨a0, a1, a2, a3⟩ := h.get he
  have H := Lib.hid h
  have HS : Hid (xs = (xs.set i e).set i e) := Lib.hid (by
    rw [List.set_set]
    apply List.ext_getElem?
    intro k
    rw [List.getElem?_set]
    by_cases hk : i = k
    · subst hk; rw [if_pos rfl, if_pos hi, he]
    · rw [if_neg hk])
  clear h he
  go_enter Tryz.func180, Tryz.ntmps180
  go_wp2
  go_region
  all_goals go_wp2
  all_goals
    refine bodyPost_end (results_none rfl _ _ _) rfl ?_
    refine ⟨rfl, ?_, ?_, ?_⟩
    · have h1 := H.out.sets hi e
      have h2 := (h1.sets (i := i) (by simpa using hi) e)
      rw [← HS.out] at h2
      exact h2.of rfl
    · exact (((((Only.refl [r] w).setCell (.inl (by simp)) _).setCell (.inl (by simp)) _).setCell (.inl (by simp)) _).setCell (.inl (by simp)) _).drew
    · simp [World.setCell]
/-- a heap of holes: its variable, its row -/
structure HAt (w : World) (hb r c : Nat) (xs : List (Nat × Nat)) : Prop where
  box : Blk w hb 185 #[.slice (some ⟨r, 0, none⟩) xs.length c]
  row : ERow w r xs
  cap : xs.length ≤ c
  lim : xs.length ≤ 65536
theorem HAt.ne {w : World} {hb r c : Nat} {xs : List (Nat × Nat)} (h : HAt w hb r c xs) : hb ≠ r := h.box.ne_ h.row.choose_spec.1 (by decide)
theorem ERow.take {w : World} {r : Nat} {xs : List (Nat × Nat)} (h : ERow w r xs) (k : Nat) : ERow w r (xs.take k) :=
  ⟨h.choose, h.choose_spec.1, fun j e hj => h.choose_spec.2 j e (by
    rw [List.getElem?_take] at hj
    split at hj
    · exact hj
    · cases hj)⟩
theorem hlen_any (n c : Nat) (A : Option Addr) (w : World) : Calls Tryz.prog 178 #[.slice A n c] w fun e w' => e = .returned (.int .i64 n) ∧ w' = w := by
  go_enter Tryz.func178, Tryz.ntmps178
  go_wp2
  go_ret
  exact ⟨rfl, rfl⟩
theorem run_head_long (A : Option Addr) (n c i : Nat) (h : i ≤ c) (w : World) : (Instr.slice 185 (.slice A n c) none (some (.int .i64 (i : Int))) none).run Tryz.prog w = .ok (.slice (if c = 0 then A else A.map (·.add 0)) i c) w := by
  have hsz : ∀ w, (sizeOf (Tryz.prog.elem 185)).run Tryz.prog w = .ok 2 w := fun w => by kernel_rfl
  rw [run_slice_h w 185 A n c (by kernel_rfl) .i64 (i : Int) (by omega) (by omega), hsz]
  simp [Result.andThen, sliced]
set_option maxRecDepth 100000 in
set_option maxHeartbeats 2000000 in
theorem hpop_any {w : World} {hb r c : Nat} {xs : List (Nat × Nat)} {e : Nat × Nat} (h : HAt w hb r c (xs ++ [e])) :
    Calls Tryz.prog 181 #[.pointer (some ⟨hb, 0, none⟩)] w fun e' w' => e' = .returned (.iface 81 (.agg #[.int .i64 (e.1 : Int), .int .i64 (e.2 : Int)])) ∧ HAt w' hb r c xs ∧ Only [hb] w w' := by
  have H := Lib.hid h
  have hc := h.cap
  have hlim := h.lim
  have hne := h.ne
  have q0 : w.cell? ⟨hb, 0, none⟩ = some (.slice (some ⟨r, 0, none⟩) (xs.length + 1) c) := by have := h.box.cell 0; simpa using this
  have q1 : w.frozen? ⟨hb, 0, none⟩ = false := h.box.frozen 0
  have q2 : ∀ o, (w.alloc o).cell? ⟨hb, 0, none⟩ = some (.slice (some ⟨r, 0, none⟩) (xs.length + 1) c) := fun o => (World.cell?_alloc_lt w o _ h.box.lt).trans q0
  have q3 : ∀ o, (w.alloc o).frozen? ⟨hb, 0, none⟩ = false := fun o => (h.box.alloc o).frozen 0
  have hbl := h.box.lt
  obtain ⟨a0, a1, -, -⟩ := h.row.get (k := xs.length) (e := e) (by simp)
  have hsl := fun (w : World) => run_head_long (some ⟨r, 0, none⟩) (xs.length + 1) c xs.length (by simp at hc; omega) w
  have hadd : (if c = 0 then some (⟨r, 0, none⟩ : Addr) else Option.map (fun x => Addr.add x 0) (some ⟨r, 0, none⟩)) = some ⟨r, 0, none⟩ := by split <;> simp [Addr.add]
  rw [hadd] at hsl
  simp only [List.length_append, List.length_singleton] at hc hlim
  have hnw : hb ≠ w.heap.size := by omega
  clear h hadd
  go_enter Tryz.func181, Tryz.ntmps181
  go_wp2
  go_ret
  have h := H.out
  refine ⟨rfl, ⟨(h.box.set_ 0 _).alloc _, ?_, by omega, by omega⟩, ((Only.refl [hb] w).setCell (.inl (by simp)) _).alloc _⟩
  have h1 := (h.row.take xs.length)
  rw [List.take_left' rfl] at h1
  have h2 : ERow (w.setCell ⟨hb, 0, none⟩ (.slice (some ⟨r, 0, none⟩) xs.length c)) r xs := h1.of (Below.heap_setCell _ _ _ _ (by show r ≠ hb; exact fun e => hne e.symm))
  exact h2.of (Below.heap_alloc _ _ _ h2.lt)
end Go.Proofs.YtfbpfgbmlbkffaaGreat

/-
  Heaps of holes, the plain part. No condition; nothing of the program is named.
-/
namespace Go.Proofs.YtfbpfgbmlbkffaaGreat
set_option linter.unusedSimpArgs false
set_option linter.unusedVariables false
def gx (xs : List (Nat × Nat)) (i : Nat) : Nat × Nat := xs.getD i (0, 0)
theorem gx_some {xs : List (Nat × Nat)} {i : Nat} (h : i < xs.length) : xs[i]? = some (gx xs i) := by
  simp [gx, List.getD_eq_getElem?_getD, List.getElem?_eq_getElem h]
theorem gx_of {xs : List (Nat × Nat)} {i : Nat} {e : Nat × Nat} (h : xs[i]? = some e) : gx xs i = e := by
  simp [gx, List.getD_eq_getElem?_getD, h]
theorem swapL_len (xs : List (Nat × Nat)) (i j : Nat) : (swapL xs i j).length = xs.length := by simp [swapL]
theorem gx_swap {xs : List (Nat × Nat)} {i j : Nat} (hi : i < xs.length) (hj : j < xs.length) (k : Nat) : gx (swapL xs i j) k = if k = j then gx xs i else if k = i then gx xs j else gx xs k := by
  by_cases h1 : k = j
  · subst h1
    rw [if_pos rfl]
    refine gx_of ?_
    simp only [swapL]
    rw [List.getElem?_set, if_pos rfl, if_pos (by simpa using hj)]
    rfl
  · rw [if_neg h1]
    by_cases h2 : k = i
    · subst h2
      rw [if_pos rfl]
      refine gx_of ?_
      simp only [swapL]
      rw [List.getElem?_set, if_neg (fun h => h1 h.symm), List.getElem?_set, if_pos rfl, if_pos hi]
      rfl
    · rw [if_neg h2]
      simp only [gx, swapL, List.getD_eq_getElem?_getD]
      rw [List.getElem?_set, if_neg (fun h => h1 h.symm), List.getElem?_set, if_neg (fun h => h2 h.symm)]
theorem swapL_perm {xs : List (Nat × Nat)} {i j : Nat} (hi : i < xs.length) (hj : j < xs.length) : (swapL xs i j).Perm xs := by
  have := List.set_set_perm hi hj
  simp only [swapL, List.getD_eq_getElem?_getD, List.getElem?_eq_getElem hi, List.getElem?_eq_getElem hj, Option.getD_some]
  exact this
def Kid (i j : Nat) : Prop := j = 2 * i + 1 ∨ j = 2 * i + 2
theorem nl_trans {a b c : Nat × Nat} (h1 : ¬ Longer b a) (h2 : ¬ Longer c b) : ¬ Longer c a := by
  simp only [Longer] at *; omega
theorem longer_asymm {a b : Nat × Nat} (h : Longer a b) : ¬ Longer b a := by
  simp only [Longer] at *; omega
/-- of the first n, none from k on is behind one of its kids -/
def HFrom (xs : List (Nat × Nat)) (n k : Nat) : Prop := ∀ i j, Kid i j → k ≤ i → j < n → ¬ Longer (gx xs j) (gx xs i)
/-- the same, but for number k -/
def HBut (xs : List (Nat × Nat)) (n i0 k : Nat) : Prop :=
  (∀ i j, Kid i j → i0 ≤ i → j < n → i ≠ k → ¬ Longer (gx xs j) (gx xs i)) ∧ (∀ p j, Kid p k → Kid k j → i0 ≤ p → j < n → ¬ Longer (gx xs j) (gx xs p))
theorem HFrom.but {xs : List (Nat × Nat)} {n i0 : Nat} (h : HFrom xs n (i0 + 1)) : HBut xs n i0 i0 :=
  ⟨fun i j hk hi hj hne => h i j hk (by omega) hj, fun p j hp _ hi _ => by simp only [Kid] at hp; omega⟩
theorem HFrom.half (xs : List (Nat × Nat)) (n : Nat) : HFrom xs n (n / 2) := by
  intro i j hk hi hj
  simp only [Kid] at hk
  omega
theorem HBut.done {xs : List (Nat × Nat)} {n i0 k : Nat} (h : HBut xs n i0 k) (hk : ∀ j, Kid k j → j < n → ¬ Longer (gx xs j) (gx xs k)) : HFrom xs n i0 := by
  intro i j hij hi hj
  by_cases he : i = k
  · subst he; exact hk j hij hj
  · exact h.1 i j hij hi hj he
theorem HBut.step {xs : List (Nat × Nat)} {n i0 k j : Nat} (h : HBut xs n i0 k) (hn : n ≤ xs.length) (hkj : Kid k j) (hj : j < n) (hk : i0 ≤ k) (hl : Longer (gx xs j) (gx xs k)) (hb : ∀ j', Kid k j' → j' < n → ¬ Longer (gx xs j') (gx xs j)) : HBut (swapL xs k j) n i0 j := by
  have hlt : k < j := by simp only [Kid] at hkj; omega
  have G := gx_swap (xs := xs) (i := k) (j := j) (by omega) (by omega)
  constructor
  · intro i m him hi hm hne
    rw [G m, G i, if_neg hne]
    by_cases h1 : i = k
    · subst h1
      rw [if_pos rfl]
      by_cases h2 : m = j
      · rw [if_pos h2]; exact longer_asymm hl
      · rw [if_neg h2, if_neg (by simp only [Kid] at him; omega)]
        exact hb m him hm
    · rw [if_neg h1]
      by_cases h2 : m = j
      · simp only [Kid] at him hkj; omega
      · rw [if_neg h2]
        by_cases h3 : m = k
        · subst h3
          rw [if_pos rfl]
          exact h.2 i j him hkj hi hj
        · rw [if_neg h3]
          exact h.1 i m him hi hm h1
  · intro p m hp hm hip hmn
    have hpk : p = k := by simp only [Kid] at hp hkj; omega
    subst hpk
    have hmj : m ≠ j := by simp only [Kid] at hm; omega
    have hmp : m ≠ p := by simp only [Kid] at hm; omega
    rw [G m, if_neg hmj, if_neg hmp, G p, if_neg (by omega), if_pos rfl]
    exact h.1 j m hm (by omega) hmn (by omega)
theorem HFrom.top {xs : List (Nat × Nat)} {n : Nat} (h : HFrom xs n 0) : ∀ j, j < n → ¬ Longer (gx xs j) (gx xs 0) := by
  intro j
  induction j using Nat.strongRecOn with
  | _ j ih =>
    intro hj
    by_cases h0 : j = 0
    · subst h0; simp [Longer]
    · have hk : Kid ((j - 1) / 2) j := by simp only [Kid]; omega
      exact nl_trans (ih ((j - 1) / 2) (by omega) (by omega)) (h _ _ hk (by omega) hj)
theorem HFrom.is_top {xs : List (Nat × Nat)} (h : HFrom xs xs.length 0) (h0 : 0 < xs.length) : Top xs (gx xs 0) := by
  refine ⟨List.mem_of_getElem? (gx_some h0), fun q hq => ?_⟩
  obtain ⟨j, hj, rfl⟩ := List.mem_iff_getElem.1 hq
  have := h.top j hj
  rw [gx_of (List.getElem?_eq_getElem hj)] at this
  by_cases he : xs[j] = gx xs 0
  · exact .inl he
  · right
    have hne : ¬ (xs[j].1 = (gx xs 0).1 ∧ xs[j].2 = (gx xs 0).2) := fun h => he (Prod.ext h.1 h.2)
    simp only [Longer] at *
    omega
/-- the top goes to the end -/
theorem HFrom.last {xs : List (Nat × Nat)} {n : Nat} (h : HFrom xs (n + 1) 0) (hn : xs.length = n + 1) : HFrom (swapL xs 0 n) n 1 := by
  have G := gx_swap (xs := xs) (i := 0) (j := n) (by omega) (by omega)
  intro i j hk hi hj
  have hij : i < j := by simp only [Kid] at hk; omega
  rw [G j, G i, if_neg (by omega), if_neg (by omega), if_neg (by omega), if_neg (by omega)]
  exact h i j hk (by omega) (by omega)
theorem HFrom.prefix_ {xs : List (Nat × Nat)} {e : Nat × Nat} (h : HFrom (xs ++ [e]) xs.length 0) : HFrom xs xs.length 0 := by
  intro i j hk hi hj
  have hij : i < j := by simp only [Kid] at hk; omega
  have := h i j hk hi hj
  have hg : ∀ k, k < xs.length → gx (xs ++ [e]) k = gx xs k := fun k hk => gx_of (by rw [List.getElem?_append_left hk]; exact gx_some hk)
  rw [hg j hj, hg i (by omega)] at this
  exact this
end Go.Proofs.YtfbpfgbmlbkffaaGreat

/-
  A heap's methods by name. Conditions: the variable reads as it is said to.
-/
namespace Go.Proofs.YtfbpfgbmlbkffaaGreat
open Go.RowKit Go.BigFrame
set_option linter.unusedSimpArgs false
set_option linter.unusedVariables false
theorem load_long (w : World) (g : Nat) (A : Option Addr) (n c : Nat) (h : w.cell? ⟨g, 0, none⟩ = some (.slice A n c)) : (loadVar 185 ⟨g, 0, none⟩).run Tryz.prog w = .ok (.slice A n c) w := by
  simp [loadVar, h]
theorem meth_pop (w : World) (f : Nat) (g : Nat) : (method (f + 1) 187 (.pointer (some ⟨g, 0, none⟩)) "Pop").run Tryz.prog w = .ok (181, .pointer (some ⟨g, 0, none⟩)) w := by
  kernel_rfl
theorem nil_chk (w : World) (g : Nat) (s : String) : (Builtin.ssaWrapNilChk_ #[187] 187 #[.pointer (some ⟨g, 0, none⟩), strVal "", strVal s]).run Tryz.prog w = .ok (.pointer (some ⟨g, 0, none⟩)) w := by
  kernel_rfl
theorem meth_of (w : World) (f g : Nat) (v : Value) (s : String) (k : FuncId) (hv : (loadVar 185 ⟨g, 0, none⟩).run Tryz.prog w = .ok v w)
    (hm : ((Tryz.prog.info? 187).bind fun i => (i.methods.find? fun m => m.name == s).map fun m => (m.path, m.func)) = some (#[], some (k, false))) :
    (method (f + 1) 187 (.pointer (some ⟨g, 0, none⟩)) s).run Tryz.prog w = .ok (k, v) w := by
  have hu : Tryz.prog.underlying 187 = some (.pointer 185) := by kernel_rfl
  cases hi : Tryz.prog.info? 187 with
  | none => rw [hi] at hm; cases hm
  | some i =>
    rw [hi] at hm
    simp only [Option.bind_some] at hm
    cases h1 : i.methods.find? fun m => m.name == s with
    | none => rw [h1] at hm; cases hm
    | some m =>
      rw [h1] at hm
      simp only [Option.map_some, Option.some.injEq, Prod.mk.injEq] at hm
      obtain ⟨h2, h3⟩ := hm
      unfold method
      simp [typeInfo, hi, h1, h2, h3, follow, receiverAt, run_underlying hu, Place.get, nil_chk, asAddr, hv]
theorem meth_less (w : World) (f g n c : Nat) (A : Option Addr) (h : w.cell? ⟨g, 0, none⟩ = some (.slice A n c)) : (method (f + 1) 187 (.pointer (some ⟨g, 0, none⟩)) "Less").run Tryz.prog w = .ok (179, .slice A n c) w :=
  meth_of w f g _ _ _ (load_long w g A n c h) (by kernel_rfl)
theorem meth_swap (w : World) (f g n c : Nat) (A : Option Addr) (h : w.cell? ⟨g, 0, none⟩ = some (.slice A n c)) : (method (f + 1) 187 (.pointer (some ⟨g, 0, none⟩)) "Swap").run Tryz.prog w = .ok (180, .slice A n c) w :=
  meth_of w f g _ _ _ (load_long w g A n c h) (by kernel_rfl)
theorem meth_len (w : World) (f g n c : Nat) (A : Option Addr) (h : w.cell? ⟨g, 0, none⟩ = some (.slice A n c)) : (method (f + 1) 187 (.pointer (some ⟨g, 0, none⟩)) "Len").run Tryz.prog w = .ok (178, .slice A n c) w :=
  meth_of w f g _ _ _ (load_long w g A n c h) (by kernel_rfl)
theorem HAt.of {w w' : World} {hb r c : Nat} {xs : List (Nat × Nat)} (h : HAt w hb r c xs) (e1 : w'.heap[hb]? = w.heap[hb]?) (e2 : w'.heap[r]? = w.heap[r]?) : HAt w' hb r c xs :=
  ⟨h.box.of e1, h.row.of e2, h.cap, h.lim⟩
theorem HAt.cell {w : World} {hb r c : Nat} {xs : List (Nat × Nat)} (h : HAt w hb r c xs) : w.cell? ⟨hb, 0, none⟩ = some (.slice (some ⟨r, 0, none⟩) xs.length c) := by
  have := h.box.cell 0; simpa using this
end Go.Proofs.YtfbpfgbmlbkffaaGreat

/-
  A heap of holes: one hole sinks to its place. Conditions: the heap reads as it is said to, and only that hole is out of place.
-/
namespace Go.Proofs.YtfbpfgbmlbkffaaGreat
open Go.RowKit Go.BigFrame
set_option linter.unusedSimpArgs false
set_option linter.unusedVariables false
theorem HAt.below {w w' : World} {hb r c : Nat} {xs : List (Nat × Nat)} (h : HAt w hb r c xs) (b : Below w.heap.size w w') : HAt w' hb r c xs :=
  h.of (b.block hb h.box.lt) (b.block r h.row.lt)
theorem less_gx {w : World} {hb r c : Nat} {ys : List (Nat × Nat)} (h : HAt w hb r c ys) (i j m : Nat) (I J : Int) (hi : i < ys.length) (hj : j < ys.length) (hm : ys.length = m) (hI : I = (i : Int)) (hJ : J = (j : Int)) :
    Calls Tryz.prog 179 #[.slice (some ⟨r, 0, none⟩) m c, .int .i64 I, .int .i64 J] w fun e' w' => e' = .returned (.bool (lgB (gx ys i) (gx ys j))) ∧ Below w.heap.size w w' := by
  subst hI hJ hm
  have := h.lim
  exact less_any h.row _ _ (gx_some hi) (gx_some hj) hi hj (by omega)
theorem swap_gx {w : World} {hb r c : Nat} {ys : List (Nat × Nat)} (h : HAt w hb r c ys) (i j m : Nat) (I J : Int) (hij : i ≠ j) (hi : i < ys.length) (hj : j < ys.length) (hm : ys.length = m) (hI : I = (i : Int)) (hJ : J = (j : Int)) :
    Calls Tryz.prog 180 #[.slice (some ⟨r, 0, none⟩) m c, .int .i64 I, .int .i64 J] w fun e' w' => e' = .returned (.tuple #[]) ∧ HAt w' hb r c (swapL ys i j) ∧ Only [hb, r] w w' := by
  subst hI hJ hm
  have hl := h.lim
  have hs := Lib.hid (swapL_len ys i j)
  refine (swap_any (c := c) h.row hij hi hj (Nat.le_refl _) (by omega)).mono ?_
  rintro e w' ⟨rfl, hr, ho, -⟩
  refine ⟨rfl, ⟨?_, hr, by rw [hs.out]; exact h.cap, by rw [hs.out]; exact h.lim⟩, ho.mono (by simp)⟩
  rw [hs.out]
  exact h.box.of (ho.block hb h.box.lt (by simpa using h.ne))
theorem nl_refl (a : Nat × Nat) : ¬ Longer a a := by simp [Longer]
set_option maxRecDepth 100000 in
set_option maxHeartbeats 4000000 in
theorem down_any {w : World} {hb r c i0 n : Nat} {xs : List (Nat × Nat)} (h : HAt w hb r c xs) (hn : n ≤ xs.length) (hi : i0 ≤ 65536) (hbut : HBut xs n i0 i0) :
    Calls Tryz.prog 149 #[.iface 187 (.pointer (some ⟨hb, 0, none⟩)), .int .i64 i0, .int .i64 n] w fun e' w' => (∃ b, e' = .returned (.bool b)) ∧ ∃ ys, HAt w' hb r c ys ∧ ys.Perm xs ∧ HFrom ys n i0 ∧ (∀ j, n ≤ j → gx ys j = gx xs j) ∧ Only [hb, r] w w' := by
  have HH := Lib.hid h
  have HB := Lib.hid hbut
  have hlim := h.lim
  clear h hbut
  go_enter Tryz.func149, Tryz.ntmps149
  go_wp2
  go_loopw [7] (fun i wr => ∃ (k : Nat) (ys : List (Nat × Nat)), i0 ≤ k ∧ k ≤ 65536 ∧ i = .int .i64 k ∧ HAt wr hb r c ys ∧ ys.Perm xs ∧ HBut ys n i0 k ∧ (∀ j, n ≤ j → gx ys j = gx xs j) ∧ Only [hb, r] w wr) (fun i _ => 65537 - (intS i).toNat)
  case atStart => exact ⟨i0, xs, by omega, by omega, rfl, HH.out, List.Perm.refl _, HB.out, fun _ _ => rfl, Only.refl _ _⟩
  case round =>
    obtain ⟨k, ys, hk0, hk, rfl, ha, hp, hbt, hun, ho⟩ := hrel
    obtain ⟨wo, hwo⟩ : ∃ wo, wo = wr := ⟨_, rfl⟩
    subst hwo
    have hlen := hp.length_eq
    have HA := Lib.hid ha
    have HO := Lib.hid ho
    have HP := Lib.hid (And.intro hp (And.intro hbt hun))
    clear ha hp hbt hun ho
    have hw1 : IntKind.i64.wrap (2 * (k : Int)) = 2 * (k : Int) := by rw [IntKind.wrap_i64]; omega
    have hw2 : IntKind.i64.wrap (2 * (k : Int) + 1) = 2 * (k : Int) + 1 := by rw [IntKind.wrap_i64]; omega
    have hw3 : IntKind.i64.wrap (2 * (k : Int) + 1 + 1) = 2 * (k : Int) + 1 + 1 := by rw [IntKind.wrap_i64]; omega
    by_cases h1 : 2 * k + 1 < n
    · have hd0 : decide ((n : Int) ≤ 2 * (k : Int) + 1) = false := decide_eq_false (by omega)
      have hd0' : decide (2 * (k : Int) + 1 < 0) = false := decide_eq_false (by omega)
      by_cases h2 : 2 * k + 2 < n
      · have hd1 : decide (2 * (k : Int) + 1 + 1 < (n : Int)) = true := decide_eq_true (by omega)
        have HL := Lib.hid (less_gx HA.out (2 * k + 2) (2 * k + 1) xs.length (2 * (k : Int) + 1 + 1) (2 * (k : Int) + 1) (by omega) (by omega) hlen (by omega) (by omega))
        have hm := fun f => meth_less wo f hb _ _ _ HA.out.cell
        go_wp2_with fail
        refine HL.out.mono ?_
        rintro e1 w1 ⟨rfl, hb1⟩
        have HA1 : Hid (HAt w1 hb r c ys) := Lib.hid (HA.out.below hb1)
        have HO1 : Hid (Only [hb, r] w w1) := Lib.hid (HO.out.trans (Only.of_below hb1 _) (Fresh.refl _ _))
        have HLB : Hid (lgB (gx ys (2 * k + 2)) (gx ys (2 * k + 1)) = true ↔ Longer (gx ys (2 * k + 2)) (gx ys (2 * k + 1))) := Lib.hid (lgB_iff _ _)
        clear HL hm HA HO hb1
        have HA := HA1
        have HO := HO1
        clear HA1 HO1
        cases hlb0 : lgB (gx ys (2 * k + 2)) (gx ys (2 * k + 1))
        · have HBE : Hid (∀ j', Kid k j' → j' < n → ¬ Longer (gx ys j') (gx ys (2 * k + 1))) := Lib.hid (fun j' hj' _ => by
            rcases hj' with rfl | rfl
            · exact nl_refl _
            · intro hh
              have := HLB.out.2 hh
              rw [hlb0] at this
              cases this)
          clear HLB
          have HL := Lib.hid (less_gx HA.out (2 * k + 1) k xs.length (2 * (k : Int) + 1) (k : Int) (by omega) (by omega) hlen (by omega) (by omega))
          have hm := fun f => meth_less w1 f hb _ _ _ HA.out.cell
          go_wp2_with fail
          refine HL.out.mono ?_
          rintro e2 w2 ⟨rfl, hb2⟩
          have HA2 : Hid (HAt w2 hb r c ys) := Lib.hid (HA.out.below hb2)
          have HO2 : Hid (Only [hb, r] w w2) := Lib.hid (HO.out.trans (Only.of_below hb2 _) (Fresh.refl _ _))
          have HLB : Hid (lgB (gx ys (2 * k + 1)) (gx ys k) = true ↔ Longer (gx ys (2 * k + 1)) (gx ys k)) := Lib.hid (lgB_iff _ _)
          clear HL hm HO HA hb2
          cases hlb : lgB (gx ys (2 * k + 1)) (gx ys k)
          · go_wp2
            go_ret
            refine ⟨⟨_, rfl⟩, ys, HA2.out, HP.out.1, HP.out.2.1.done fun j' hk' hj' => nl_trans (fun hh => ?_) (HBE.out j' hk' hj'), HP.out.2.2, HO2.out⟩
            have := HLB.out.2 hh
            rw [hlb] at this
            cases this
          · have hlg := HLB.out.1 hlb
            have HSW := Lib.hid (swap_gx HA2.out k (2 * k + 1) xs.length (k : Int) (2 * (k : Int) + 1) (by omega) (by omega) (by omega) hlen (by omega) (by omega))
            have HST := Lib.hid (HP.out.2.1.step (j := 2 * k + 1) (by omega) (.inl rfl) (by omega) hk0 hlg HBE.out)
            have HPE := Lib.hid (swapL_perm (xs := ys) (i := k) (j := 2 * k + 1) (by omega) (by omega))
            have HGX := Lib.hid (gx_swap (xs := ys) (i := k) (j := 2 * k + 1) (by omega) (by omega))
            have hm := fun f => meth_swap w2 f hb _ _ _ HA2.out.cell
            clear hlg
            go_wp2_with fail
            refine HSW.out.mono ?_
            rintro e3 w3 ⟨rfl, ha3, ho3⟩
            have HA3 := Lib.hid ha3
            have HO3 := Lib.hid (HO2.out.trans ho3 (Fresh.refl _ _))
            clear hm HSW ha3 ho3
            go_wp2
            go_roundw
            case rel =>
              refine ⟨2 * k + 1, swapL ys k (2 * k + 1), by omega, by omega, by go_num, HA3.out, HPE.out.trans HP.out.1, HST.out, fun j' hj' => ?_, HO3.out⟩
              rw [HGX.out j', if_neg (show ¬ j' = 2 * k + 1 by omega), if_neg (show ¬ j' = k by omega)]
              exact HP.out.2.2 j' hj'
            case measure => simp [intS]; omega
        · have HBE : Hid (∀ j', Kid k j' → j' < n → ¬ Longer (gx ys j') (gx ys (2 * k + 2))) := Lib.hid (fun j' hj' _ => by
            rcases hj' with rfl | rfl
            · exact longer_asymm (HLB.out.1 hlb0)
            · exact nl_refl _)
          clear HLB
          have HL := Lib.hid (less_gx HA.out (2 * k + 2) k xs.length (2 * (k : Int) + 1 + 1) (k : Int) (by omega) (by omega) hlen (by omega) (by omega))
          have hm := fun f => meth_less w1 f hb _ _ _ HA.out.cell
          go_wp2_with fail
          refine HL.out.mono ?_
          rintro e2 w2 ⟨rfl, hb2⟩
          have HA2 : Hid (HAt w2 hb r c ys) := Lib.hid (HA.out.below hb2)
          have HO2 : Hid (Only [hb, r] w w2) := Lib.hid (HO.out.trans (Only.of_below hb2 _) (Fresh.refl _ _))
          have HLB : Hid (lgB (gx ys (2 * k + 2)) (gx ys k) = true ↔ Longer (gx ys (2 * k + 2)) (gx ys k)) := Lib.hid (lgB_iff _ _)
          clear HL hm HO HA hb2
          cases hlb : lgB (gx ys (2 * k + 2)) (gx ys k)
          · go_wp2
            go_ret
            refine ⟨⟨_, rfl⟩, ys, HA2.out, HP.out.1, HP.out.2.1.done fun j' hk' hj' => nl_trans (fun hh => ?_) (HBE.out j' hk' hj'), HP.out.2.2, HO2.out⟩
            have := HLB.out.2 hh
            rw [hlb] at this
            cases this
          · have hlg := HLB.out.1 hlb
            have HSW := Lib.hid (swap_gx HA2.out k (2 * k + 2) xs.length (k : Int) (2 * (k : Int) + 1 + 1) (by omega) (by omega) (by omega) hlen (by omega) (by omega))
            have HST := Lib.hid (HP.out.2.1.step (j := 2 * k + 2) (by omega) (.inr rfl) (by omega) hk0 hlg HBE.out)
            have HPE := Lib.hid (swapL_perm (xs := ys) (i := k) (j := 2 * k + 2) (by omega) (by omega))
            have HGX := Lib.hid (gx_swap (xs := ys) (i := k) (j := 2 * k + 2) (by omega) (by omega))
            have hm := fun f => meth_swap w2 f hb _ _ _ HA2.out.cell
            clear hlg
            go_wp2_with fail
            refine HSW.out.mono ?_
            rintro e3 w3 ⟨rfl, ha3, ho3⟩
            have HA3 := Lib.hid ha3
            have HO3 := Lib.hid (HO2.out.trans ho3 (Fresh.refl _ _))
            clear hm HSW ha3 ho3
            go_wp2
            go_roundw
            case rel =>
              refine ⟨2 * k + 2, swapL ys k (2 * k + 2), by omega, by omega, by go_num, HA3.out, HPE.out.trans HP.out.1, HST.out, fun j' hj' => ?_, HO3.out⟩
              rw [HGX.out j', if_neg (show ¬ j' = 2 * k + 2 by omega), if_neg (show ¬ j' = k by omega)]
              exact HP.out.2.2 j' hj'
            case measure => simp [intS]; omega
      · have hd1 : decide (2 * (k : Int) + 1 + 1 < (n : Int)) = false := decide_eq_false (by omega)
        have HBE : Hid (∀ j', Kid k j' → j' < n → ¬ Longer (gx ys j') (gx ys (2 * k + 1))) := Lib.hid (fun j' hj' hh => by
          rcases hj' with rfl | rfl
          · exact nl_refl _
          · omega)
        have HL := Lib.hid (less_gx HA.out (2 * k + 1) k xs.length (2 * (k : Int) + 1) (k : Int) (by omega) (by omega) hlen (by omega) (by omega))
        have hm := fun f => meth_less wo f hb _ _ _ HA.out.cell
        go_wp2_with fail
        refine HL.out.mono ?_
        rintro e2 w2 ⟨rfl, hb2⟩
        have HA2 : Hid (HAt w2 hb r c ys) := Lib.hid (HA.out.below hb2)
        have HO2 : Hid (Only [hb, r] w w2) := Lib.hid (HO.out.trans (Only.of_below hb2 _) (Fresh.refl _ _))
        have HLB : Hid (lgB (gx ys (2 * k + 1)) (gx ys k) = true ↔ Longer (gx ys (2 * k + 1)) (gx ys k)) := Lib.hid (lgB_iff _ _)
        clear HL hm HO HA hb2
        cases hlb : lgB (gx ys (2 * k + 1)) (gx ys k)
        · go_wp2
          go_ret
          refine ⟨⟨_, rfl⟩, ys, HA2.out, HP.out.1, HP.out.2.1.done fun j' hk' hj' => nl_trans (fun hh => ?_) (HBE.out j' hk' hj'), HP.out.2.2, HO2.out⟩
          have := HLB.out.2 hh
          rw [hlb] at this
          cases this
        · have hlg := HLB.out.1 hlb
          have HSW := Lib.hid (swap_gx HA2.out k (2 * k + 1) xs.length (k : Int) (2 * (k : Int) + 1) (by omega) (by omega) (by omega) hlen (by omega) (by omega))
          have HST := Lib.hid (HP.out.2.1.step (j := 2 * k + 1) (by omega) (.inl rfl) (by omega) hk0 hlg HBE.out)
          have HPE := Lib.hid (swapL_perm (xs := ys) (i := k) (j := 2 * k + 1) (by omega) (by omega))
          have HGX := Lib.hid (gx_swap (xs := ys) (i := k) (j := 2 * k + 1) (by omega) (by omega))
          have hm := fun f => meth_swap w2 f hb _ _ _ HA2.out.cell
          clear hlg
          go_wp2_with fail
          refine HSW.out.mono ?_
          rintro e3 w3 ⟨rfl, ha3, ho3⟩
          have HA3 := Lib.hid ha3
          have HO3 := Lib.hid (HO2.out.trans ho3 (Fresh.refl _ _))
          clear hm HSW ha3 ho3
          go_wp2
          go_roundw
          case rel =>
            refine ⟨2 * k + 1, swapL ys k (2 * k + 1), by omega, by omega, by go_num, HA3.out, HPE.out.trans HP.out.1, HST.out, fun j' hj' => ?_, HO3.out⟩
            rw [HGX.out j', if_neg (show ¬ j' = 2 * k + 1 by omega), if_neg (show ¬ j' = k by omega)]
            exact HP.out.2.2 j' hj'
          case measure => simp [intS]; omega
    · have hd0 : decide ((n : Int) ≤ 2 * (k : Int) + 1) = true := decide_eq_true (by omega)
      go_wp2
      go_ret
      exact ⟨⟨_, rfl⟩, ys, HA.out, HP.out.1, HP.out.2.1.done fun j' hk' hj' => by simp only [Kid] at hk'; omega, HP.out.2.2, HO.out⟩
end Go.Proofs.YtfbpfgbmlbkffaaGreat

/-
  A heap of holes: made of any row; its top taken. Conditions: the heap reads as it is said to.
-/
namespace Go.Proofs.YtfbpfgbmlbkffaaGreat
open Go.RowKit Go.BigFrame
set_option linter.unusedSimpArgs false
set_option linter.unusedVariables false
set_option maxRecDepth 100000 in
set_option maxHeartbeats 4000000 in
theorem init_any {w : World} {hb r c : Nat} {xs : List (Nat × Nat)} (h : HAt w hb r c xs) :
    Calls Tryz.prog 137 #[.iface 187 (.pointer (some ⟨hb, 0, none⟩))] w fun e' w' => e' = .returned (.tuple #[]) ∧ ∃ ys, HAt w' hb r c ys ∧ ys.Perm xs ∧ HFrom ys ys.length 0 ∧ Only [hb, r] w w' := by
  have HH := Lib.hid h
  have hlim := h.lim
  have hm := fun f => meth_len w f hb _ _ _ h.cell
  clear h
  have hq : (xs.length : Int).tdiv 2 = ((xs.length / 2 : Nat) : Int) := by rw [Int.tdiv_eq_ediv_of_nonneg (by omega)]; omega
  have hw1 : IntKind.i64.wrap (((xs.length / 2 : Nat) : Int)) = ((xs.length / 2 : Nat) : Int) := by rw [IntKind.wrap_i64]; omega
  have hw2 : IntKind.i64.wrap (((xs.length / 2 : Nat) : Int) - 1) = ((xs.length / 2 : Nat) : Int) - 1 := by rw [IntKind.wrap_i64]; omega
  go_enter Tryz.func137, Tryz.ntmps137
  go_wp2_with fail
  refine (hlen_any _ _ _ _).mono ?_
  rintro e w ⟨rfl, rfl⟩
  clear hm
  go_wp2
  go_loopw [3] (fun i wr => ∃ (k : Nat) (ys : List (Nat × Nat)), k ≤ 65536 ∧ i = .int .i64 ((k : Int) - 1) ∧ HAt wr hb r c ys ∧ ys.Perm xs ∧ HFrom ys xs.length k ∧ Only [hb, r] w wr) (fun i _ => (intS i + 1).toNat)
  case atStart => 
    exact ⟨xs.length / 2, xs, by omega, by go_num, HH.out, List.Perm.refl _, HFrom.half _ _, Only.refl _ _⟩
  case round =>
    obtain ⟨k, ys, hk, rfl, ha, hp, hf, ho⟩ := hrel
    have hlen := hp.length_eq
    by_cases h0 : k = 0
    · subst h0
      have HP := Lib.hid (And.intro ha (And.intro hp (And.intro hf ho)))
      clear ha hp hf ho
      go_wp2
      refine bodyPost_end (results_none rfl _ _ _) rfl ?_
      exact ⟨rfl, ys, HP.out.1, HP.out.2.1, by rw [hlen]; exact HP.out.2.2.1, HP.out.2.2.2⟩
    · obtain ⟨j, rfl⟩ : ∃ j, k = j + 1 := ⟨k - 1, by omega⟩
      have HD := Lib.hid (down_any ha (n := xs.length) (by omega) (i0 := j) (by omega) hf.but)
      have HO := Lib.hid (And.intro hp ho)
      clear ha hp hf ho
      have he : ((j + 1 : Nat) : Int) - 1 = (j : Int) := by omega
      rw [he]
      have hwk : IntKind.i64.wrap ((j : Int) - 1) = (j : Int) - 1 := by rw [IntKind.wrap_i64]; omega
      go_wp2_with fail
      refine HD.out.mono ?_
      rintro e2 w2 ⟨⟨b, rfl⟩, ys2, ha2, hp2, hf2, -, ho2⟩
      have HR := Lib.hid (And.intro ha2 (And.intro (hp2.trans HO.out.1) (And.intro hf2 (HO.out.2.trans ho2 (Fresh.refl _ _)))))
      clear HD HO ha2 hp2 hf2 ho2
      go_wp2
      go_roundw
      case rel => exact ⟨j, ys2, by omega, rfl, HR.out⟩
      case measure => simp [intS]
set_option maxRecDepth 100000 in
set_option maxHeartbeats 4000000 in
theorem pop_any {w : World} {hb r c : Nat} {xs : List (Nat × Nat)} (h : HAt w hb r c xs) (hf : HFrom xs xs.length 0) (h0 : 0 < xs.length) :
    Calls Tryz.prog 138 #[.iface 187 (.pointer (some ⟨hb, 0, none⟩))] w fun e' w' => e' = .returned (.iface 81 (.agg #[.int .i64 ((gx xs 0).1 : Int), .int .i64 ((gx xs 0).2 : Int)])) ∧ ∃ ys, HAt w' hb r c ys ∧ ys.Perm (xs.erase (gx xs 0)) ∧ HFrom ys ys.length 0 ∧ Only [hb, r] w w' := by
  obtain ⟨n, hn⟩ : ∃ n, xs.length = n + 1 := ⟨xs.length - 1, by omega⟩
  have HH := Lib.hid h
  have hlim := h.lim
  have hm := fun f => meth_len w f hb _ _ _ h.cell
  have hm2 := fun f => meth_swap w f hb _ _ _ h.cell
  have hsw : ∃ ys, HFrom ys n 1 ∧ ys.Perm xs ∧ gx ys n = gx xs 0 ∧ Calls Tryz.prog 180 #[.slice (some ⟨r, 0, none⟩) (n + 1) c, .int .i64 0, .int .i64 n] w fun e' w' => e' = .returned (.tuple #[]) ∧ HAt w' hb r c ys ∧ Only [hb, r] w w' := by
    by_cases hz : n = 0
    · subst hz
      refine ⟨xs, fun i j _ _ hj => by omega, List.Perm.refl _, rfl, ?_⟩
      refine (swap_same (c := c) h.row h0 (by omega) (by omega)).mono ?_
      rintro e w' ⟨rfl, hr, ho, -⟩
      exact ⟨rfl, ⟨h.box.of (ho.block hb h.box.lt (by simpa using h.ne)), hr, h.cap, h.lim⟩, ho.mono (by simp)⟩
    · refine ⟨swapL xs 0 n, HFrom.last (hn ▸ hf) hn, swapL_perm (by omega) (by omega), ?_, swap_gx h 0 n (n + 1) 0 n (by omega) (by omega) (by omega) hn rfl rfl⟩
      rw [gx_swap (by omega) (by omega), if_pos rfl]
  obtain ⟨y1, f1, p1, g1, s1⟩ := hsw
  have HS := Lib.hid s1
  have HY := Lib.hid (And.intro f1.but (And.intro p1 g1))
  have hl1 := p1.length_eq
  rw [hn] at hm hm2 hl1 hlim
  clear h hf s1 f1 p1 g1 h0
  have hw : IntKind.i64.wrap ((n : Int) + 1 - 1) = (n : Int) := by rw [IntKind.wrap_i64]; omega
  go_enter Tryz.func138, Tryz.ntmps138
  go_wp2_with fail
  refine (hlen_any _ _ _ _).mono ?_
  rintro e w ⟨rfl, rfl⟩
  go_wp2_with fail
  refine HS.out.mono ?_
  rintro e w1 ⟨rfl, a1, o1⟩
  have HD := Lib.hid (down_any a1 (n := n) (by omega) (i0 := 0) (by omega) HY.out.1)
  have HO := Lib.hid o1
  clear hm hm2 HS a1 o1
  go_wp2_with fail
  refine HD.out.mono ?_
  rintro e2 w2 ⟨⟨b, rfl⟩, y2, a2, p2, f2, u2, o2⟩
  have hl2 := p2.length_eq
  have hsp : y2 = y2.take n ++ [gx xs 0] := by
    have h1 := (List.take_append_drop n y2).symm
    have h2 : y2.drop n = [gx xs 0] := by
      rw [List.drop_eq_getElem_cons (by omega), List.drop_of_length_le (by omega)]
      have := gx_some (xs := y2) (i := n) (by omega)
      rw [u2 n (Nat.le_refl _), HY.out.2.2, List.getElem?_eq_getElem (by omega)] at this
      injection this with this
      rw [this]
    rwa [h2] at h1
  have hzl : (y2.take n).length = n := by simp; omega
  have hpz : (y2.take n).Perm (xs.erase (gx xs 0)) := by
    have q := (p2.trans HY.out.2.1)
    rw [hsp] at q
    have q2 := (List.perm_append_comm.trans q).erase (gx xs 0)
    simpa using q2
  have hfz : HFrom (y2.take n) (y2.take n).length 0 := by
    refine HFrom.prefix_ (e := gx xs 0) ?_
    rw [← hsp, hzl]
    exact f2
  rw [hsp] at a2
  generalize y2.take n = zs at *
  have HPO := Lib.hid (hpop_any a2)
  have HZ := Lib.hid (And.intro hpz (And.intro hfz (HO.out.trans o2 (Fresh.refl _ _))))
  have hm3 := fun f => meth_pop w2 f hb
  clear HD HO a2 p2 f2 u2 o2 hpz hfz hsp
  go_wp2_with fail
  refine HPO.out.mono ?_
  rintro e3 w3 ⟨rfl, a3, o3⟩
  have HA := Lib.hid (And.intro a3 o3)
  clear HPO a3 o3
  go_wp2
  go_ret
  exact ⟨rfl, zs, HA.out.1, HZ.out.1, HZ.out.2.1, HZ.out.2.2.trans (HA.out.2.mono (by simp)) (Fresh.refl _ _)⟩
end Go.Proofs.YtfbpfgbmlbkffaaGreat

/-
  The shortest hole that fits: what its functions' values answer. Conditions: the captured cells read as they are said to.
-/
namespace Go.Proofs.YtfbpfgbmlbkffaaGreat
open Go.RowKit Go.BigFrame
set_option linter.unusedSimpArgs false
set_option linter.unusedVariables false
def exV (e : Nat × Nat) : Value := .agg #[.int .i64 (e.1 : Int), .int .i64 (e.2 : Int)]
set_option maxRecDepth 100000 in
theorem fits_any {w : World} {p : Nat} (n : Nat) (e : Nat × Nat) (hp : w.cell? ⟨p, 0, none⟩ = some (.int .i64 (n : Int))) (hpl : p < w.heap.size) :
    Calls Tryz.prog 140 #[exV e, .pointer (some ⟨p, 0, none⟩)] w fun e' w' => e' = .returned (.bool (decide (n ≤ e.2))) ∧ Below w.heap.size w w' := by
  go_enter Tryz.func140, Tryz.ntmps140
  unfold exV
  go_wp2
  go_ret
  exact ⟨rfl, (Below.refl _ _).alloc (Nat.le_refl _) _⟩
def fitsV (p : Nat) : Value := .func (.func 140) #[] #[.pointer (some ⟨p, 0, none⟩)]
def notV (q : Nat) : Value := .func (.func 151) #[] #[.pointer (some ⟨q, 0, none⟩)]
/-- the captured cells: how many blocks, and which function -/
structure Cap (w : World) (p q n : Nat) : Prop where
  num : w.cell? ⟨p, 0, none⟩ = some (.int .i64 (n : Int))
  fn : w.cell? ⟨q, 0, none⟩ = some (fitsV p)
  pl : p < w.heap.size
  ql : q < w.heap.size
theorem Cap.of {w w' : World} {p q n : Nat} (h : Cap w p q n) (hs : w.heap.size ≤ w'.heap.size) (h1 : w'.heap[p]? = w.heap[p]?) (h2 : w'.heap[q]? = w.heap[q]?) : Cap w' p q n :=
  ⟨by rw [← h.num]; simp [World.cell?, h1], by rw [← h.fn]; simp [World.cell?, h2], Nat.lt_of_lt_of_le h.pl hs, Nat.lt_of_lt_of_le h.ql hs⟩
set_option maxRecDepth 100000 in
theorem notfit_any {w : World} {p q n : Nat} (e : Nat × Nat) (h : Cap w p q n) :
    Calls Tryz.prog 151 #[exV e, .pointer (some ⟨q, 0, none⟩)] w fun e' w' => e' = .returned (.bool (!decide (n ≤ e.2))) ∧ Below w.heap.size w w' := by
  have h1 := h.fn
  have hpl := h.pl
  have hql := h.ql
  have HF := Lib.hid (fits_any (w := w.alloc (.cells #[.int .i64 (e.1 : Int), .int .i64 (e.2 : Int)] 81)) n e ((World.cell?_alloc_lt w _ _ h.pl).trans h.num) (by rw [World.size_alloc]; omega))
  clear h
  unfold fitsV at h1
  go_enter Tryz.func151, Tryz.ntmps151
  unfold exV at HF ⊢
  go_wp2_with fail
  refine HF.out.mono ?_
  rintro e2 w2 ⟨rfl, hb2⟩
  have HB := Lib.hid (((Below.refl w.heap.size w).alloc (Nat.le_refl _) (.cells #[.int .i64 (e.1 : Int), .int .i64 (e.2 : Int)] 81)).trans (hb2.mono (by rw [World.size_alloc]; omega)))
  clear hb2 HF
  go_wp2
  go_ret
  exact ⟨rfl, HB.out⟩
/-- does e come first, where the shortest one is asked for? -/
def cmpE (e q : Nat × Nat) : Int := orI (cmpI (e.2 : Int) (q.2 : Int)) (cmpI (e.1 : Int) (q.1 : Int))
theorem cmpE_iff (e q : Nat × Nat) : cmpE e q < 0 ↔ Shorter e q := by
  simp only [cmpE, orI, cmpI, Shorter]
  by_cases h1 : (e.2 : Int) < (q.2 : Int)
  · simp only [h1, if_true]; simp; omega
  · by_cases h2 : (q.2 : Int) < (e.2 : Int)
    · simp only [h1, h2, if_true, if_false]; simp; omega
    · simp only [h1, h2, if_false, if_true]
      by_cases h3 : (e.1 : Int) < (q.1 : Int)
      · simp only [h3, if_true]; simp; omega
      · by_cases h4 : (q.1 : Int) < (e.1 : Int)
        · simp only [h3, h4, if_true, if_false]; simp; omega
        · simp only [h3, h4, if_false]; simp; omega
set_option maxRecDepth 100000 in
set_option maxHeartbeats 2000000 in
theorem cmpe_any (w : World) (e q : Nat × Nat) :
    Calls Tryz.prog 153 #[exV e, exV q] w fun e' w' => e' = .returned (.int .i64 (cmpE e q)) ∧ Below w.heap.size w w' := by
  go_enter Tryz.func153, Tryz.ntmps153
  unfold exV
  go_wp2_with fail
  have b0 : ∀ j u, #[Value.int .i64 (e.1 : Int), .int .i64 (e.2 : Int)][j]? = some u → ((w.alloc (.cells #[.int .i64 (e.1 : Int), .int .i64 (e.2 : Int)] 81)).alloc (.cells #[.int .i64 (q.1 : Int), .int .i64 (q.2 : Int)] 81)).cell? ⟨w.heap.size, j, none⟩ = some u := fun j u hu => (World.cell?_alloc_lt _ _ _ (by rw [World.size_alloc]; show w.heap.size < _; omega)).trans (((Blk.new w 81 _).cell j).trans hu)
  have b1 : ∀ j u, #[Value.int .i64 (q.1 : Int), .int .i64 (q.2 : Int)][j]? = some u → ((w.alloc (.cells #[.int .i64 (e.1 : Int), .int .i64 (e.2 : Int)] 81)).alloc (.cells #[.int .i64 (q.1 : Int), .int .i64 (q.2 : Int)] 81)).cell? ⟨w.heap.size + 1, j, none⟩ = some u := fun j u hu => by
    have := (Blk.new (w.alloc (.cells #[.int .i64 (e.1 : Int), .int .i64 (e.2 : Int)] 81)) 81 #[Value.int .i64 (q.1 : Int), .int .i64 (q.2 : Int)]).cell j
    rw [World.size_alloc] at this
    exact this.trans hu
  have a0 := b0 0 _ rfl
  have a1 := b0 1 _ rfl
  have a2 := b1 0 _ rfl
  have a3 := b1 1 _ rfl
  have hbw : Below w.heap.size w ((w.alloc (.cells #[.int .i64 (e.1 : Int), .int .i64 (e.2 : Int)] 81)).alloc (.cells #[.int .i64 (q.1 : Int), .int .i64 (q.2 : Int)] 81)) := ((Below.refl _ _).alloc (Nat.le_refl _) _).alloc (by rw [World.size_alloc]; omega) _
  have hsz : ((w.alloc (.cells #[.int .i64 (e.1 : Int), .int .i64 (e.2 : Int)] 81)).alloc (.cells #[.int .i64 (q.1 : Int), .int .i64 (q.2 : Int)] 81)).heap.size = w.heap.size + 2 := by rw [World.size_alloc, World.size_alloc]
  generalize hg : w.heap.size = g at *
  have HG := Lib.hid hg
  clear hg
  generalize ((w.alloc (.cells #[.int .i64 (e.1 : Int), .int .i64 (e.2 : Int)] 81)).alloc (.cells #[.int .i64 (q.1 : Int), .int .i64 (q.2 : Int)] 81)) = w1 at *
  have HW := Lib.hid (And.intro hbw hsz)
  clear b0 b1 hbw hsz
  refine wp_region_still_tail 10 (by kernel_rfl) (by kernel_rfl) ?_
  simp only [List.take_succ_cons, List.take_zero, List.drop_succ_cons, List.drop_zero]
  repeat still_step
  still_call (cmp_any _ _ _)
  repeat still_step
  still_call (cmp_any _ _ _)
  repeat still_step
  refine wpStill_nil ?_
  change wpList _ _ _ _ _ w1.drew
  have HL : Hid (cmpE e q = orI (cmpI (e.2 : Int) (q.2 : Int)) (cmpI (e.1 : Int) (q.1 : Int))) := Lib.hid rfl
  generalize cmpI (e.2 : Int) (q.2 : Int) = ca at *
  generalize cmpI (e.1 : Int) (q.1 : Int) = cb at *
  have hb2 : Below g w w1.drew := HW.out.1.drew
  have hs2 : g ≤ w1.drew.heap.size := by show g ≤ w1.heap.size; rw [HW.out.2]; omega
  generalize w1.drew = w2 at *
  clear a0 a1 a2 a3 HW
  have HO := Lib.hid (or_any ca cb w2.heap.size (w2.alloc (.cells #[.int .i64 ca, .int .i64 cb] 3)) ((Blk.new w2 3 #[.int .i64 ca, .int .i64 cb]).cell 0) ((Blk.new w2 3 #[.int .i64 ca, .int .i64 cb]).cell 1))
  have HB := Lib.hid (hb2.alloc hs2 (.cells #[.int .i64 ca, .int .i64 cb] 3))
  clear hb2 hs2
  go_wp2_with fail
  refine HO.out.mono ?_
  rintro e3 w3 ⟨rfl, rfl⟩
  go_wp2
  go_ret
  rw [HL.out, HG.out]
  exact ⟨rfl, HB.out⟩
end Go.Proofs.YtfbpfgbmlbkffaaGreat

/-
  The shortest hole that fits: the holes that don't fit are dropped, the first of the rest is found. Conditions: the row reads as it is said to.
-/
namespace Go.Proofs.YtfbpfgbmlbkffaaGreat
open Go.RowKit Go.BigFrame
set_option linter.unusedSimpArgs false
set_option linter.unusedVariables false
def Idx (xs : List (Nat × Nat)) (n : Nat) (v : Int) : Prop := (v = -1 ∧ ∀ e ∈ xs, n ≤ e.2) ∨ ∃ k : Nat, v = k ∧ k < xs.length ∧ (∀ j, j < k → n ≤ (gx xs j).2) ∧ ¬ n ≤ (gx xs k).2
set_option maxRecDepth 100000 in
set_option maxHeartbeats 2000000 in
theorem index_ext {w : World} {r c p q n : Nat} {xs : List (Nat × Nat)} (h : ERow w r xs) (hl : xs.length ≤ 65536) (hC : Cap w p q n) :
    Calls Tryz.prog 158 #[.slice (some ⟨r, 0, none⟩) xs.length c, notV q] w fun e' w' => (∃ v, e' = .returned (.int .i64 v) ∧ Idx xs n v) ∧ Below w.heap.size w w' := by
  have H := Lib.hid h
  have HC := Lib.hid hC
  have hrl := h.lt
  clear h hC
  go_enter Tryz.func158, Tryz.ntmps158
  unfold notV
  go_wp2
  go_loopw [8] (fun i wr => ∃ k : Nat, k ≤ xs.length ∧ i = .int .i64 k ∧ (∀ j, j < k → n ≤ (gx xs j).2) ∧ Below w.heap.size w wr) (fun i _ => xs.length - (intS i).toNat)
  case atStart => exact ⟨0, by omega, rfl, fun j hj => by omega, Below.refl _ _⟩
  case round =>
    obtain ⟨k, hk, rfl, hf, hb⟩ := hrel
    obtain ⟨wo, hwo⟩ : ∃ wo, wo = wr := ⟨_, rfl⟩
    subst hwo
    have HF := Lib.hid hf
    have hrow : ERow wo r xs := H.out.of (hb.block r hrl)
    have hcap : Cap wo p q n := HC.out.of hb.size (hb.block p HC.out.pl) (hb.block q HC.out.ql)
    by_cases hlt : k < xs.length
    · obtain ⟨c0, c1, -, -⟩ := hrow.get (gx_some hlt)
      have HN := Lib.hid (notfit_any (gx xs k) hcap)
      have HB := Lib.hid hb
      clear hrow hcap hb hf
      have hwk : IntKind.i64.wrap ((k : Int) + 1) = (k : Int) + 1 := by rw [IntKind.wrap_i64]; omega
      unfold exV at HN
      go_wp2_with fail
      refine HN.out.mono ?_
      rintro e2 w2 ⟨rfl, hb2⟩
      have HB2 := Lib.hid (HB.out.trans (hb2.mono HB.out.size))
      clear hb2 HN HB c0 c1
      by_cases hfit : n ≤ (gx xs k).2
      · have hd : (!decide (n ≤ (gx xs k).2)) = false := by simp [hfit]
        go_wp2
        go_roundw
        case rel => exact ⟨k + 1, by omega, by go_num, fun j hj => by
          by_cases he : j = k
          · subst he; exact hfit
          · exact HF.out j (by omega), HB2.out⟩
        case measure => simp [intS]; omega
      · have hd : (!decide (n ≤ (gx xs k).2)) = true := by simp [hfit]
        go_wp2
        go_ret
        exact ⟨⟨_, rfl, .inr ⟨k, rfl, hlt, HF.out, hfit⟩⟩, HB2.out⟩
    · obtain rfl : k = xs.length := by omega
      have HB := Lib.hid hb
      clear hrow hcap hb hf
      go_wp2
      go_ret
      refine ⟨⟨_, rfl, .inl ⟨rfl, fun e he => ?_⟩⟩, HB.out⟩
      obtain ⟨j, hj, rfl⟩ := List.mem_iff_getElem.1 he
      have := HF.out j hj
      rwa [gx_of (List.getElem?_eq_getElem hj)] at this
end Go.Proofs.YtfbpfgbmlbkffaaGreat
