/-
 An operation on a store. Conditions: the store lies where it is said to; the steps read as they are said to.
-/
import Derived.Test.YtajajlbeiikcmaaGreatDoorZg
import Derived.Laws.CopyOwn
import Derived.Shelf.SlIter.Nil
import Derived.Shelf.SortM.Plain
import Derived.Shelf.SortM.SortNone
import Derived.Test.YtajajlbeiikcmaaGreatDoorProg
import Derived.Deep.CutRange
namespace Go.Proofs.YtajajlbeiikcmaaGreatDoor
set_option linter.unusedSimpArgs false
set_option linter.unusedVariables false
set_option maxRecDepth 100000
section
open Go.RowKit Go.BigFrame
structure SV where
 x : StepV
 D : Option Addr
 c : Nat
def SV.cs (s : SV) : List Value := [.int .i64 s.x.kd, .int .i64 s.x.at_, .int .i64 s.x.ln, .string (strOf s.x.nm), .slice s.D s.x.dt.length s.c]
theorem SV.cs_len (s : SV) : s.cs.length = 5 := rfl
structure StepsR (w : World) (B : Nat) (A : Option Addr) (l : List SV) : Prop where
 row : Reads w B 5 A l.length (l.flatMap SV.cs)
 els : ∀ s ∈ l, StepIn w s.x B s.D
theorem StepsR.since {w w' : World} {B : Nat} {A : Option Addr} {l : List SV} (h : StepsR w B A l) (hb : Below w.heap.size w w') : StepsR w' B A l := ⟨h.row.since hb, fun s hs => (h.els s hs).since hb⟩
theorem StepsR.get {w : World} {B : Nat} {A : Option Addr} {l : List SV} (h : StepsR w B A l) {k : Nat} {s : SV} (hk : l[k]? = some s) : ∃ ad, A = some ad /\ ad.block < B /\ ∀ j v, s.cs[j]? = some v -> w.cell? ((ad.add (k * 5)).add j) = some v := by
 have hl := (List.getElem?_eq_some_iff.1 hk).1
 obtain ⟨ad, e, hb, hc⟩ := h.row.2 (by omega)
 refine ⟨ad, e, hb, fun j v hj => ?_⟩
 rw [x2H]
 have hj5 : j < 5 := by have := (List.getElem?_eq_some_iff.1 hj).1; rwa [SV.cs_len] at this
 exact hc _ v (by rw [x2I SV.cs 5 SV.cs_len l k j s hk hj5]; exact hj)
theorem x8J (w : World) (p : Addr) (s : SV) (hc : ∀ j v, s.cs[j]? = some v -> w.cell? (p.add j) = some v) : (loadVar 52 p).run Tryz.prog w = .ok (.agg s.cs.toArray) w := by
 have hl : (loadCells p 5).run Tryz.prog w = .ok s.cs.toArray w := run_loadCells_list (P := Tryz.prog) w p s.cs hc
 have hagg : (isAgg 52).run Tryz.prog w = .ok true w := by
  unfold isAgg
  rw [Sem.run_bind, run_underlying Tryz.underlying52 w]
  rfl
 have hi : (Tryz.prog.info? 52).map (·.size) = some 5 := by kernel_rfl
 cases hq : Tryz.prog.info? 52 with
 | none => simp [hq] at hi
 | some i =>
  have hs : i.size = 5 := by simpa [hq] using hi
  simp [loadVar, Sem.run_bind, hagg, sizeOf, typeInfo, hq, hs, hl]
theorem x1Y {ops : Array Oper} {rest : List Oper} {op : Oper} {a : Act} {w : World} {Q : Exit -> Act -> World -> Prop} (hgd : op.guard = none) (x : Operand) (ho : op.op = .load 52 x)
  (p : Addr) (hx : a.eval x = .pointer (some p)) (s : SV) (hc : ∀ j v, s.cs[j]? = some v -> w.cell? (p.add j) = some v)
  (h : wpList Tryz.prog ops Q rest (a.put op.dst (.agg #[.int .i64 s.x.kd, .int .i64 s.x.at_, .int .i64 s.x.ln, .string (strOf s.x.nm), .slice s.D s.x.dt.length s.c])) w) : wpList Tryz.prog ops Q (op :: rest) a w :=
 wpList_plain hgd fun _ hK => by
  unfold Oper.wp execOp
  simp only [ho, hx, Instr.loadAt, Instr.sureAddr, Sem.run_bind, Sem.run_pure, Result.andThen_ok, x8J w p s hc]
  exact hK _ _ h
def ToldR (w : World) (B : Nat) (v : Value) (told : List (List Nat)) : Prop := ∃ T ct tv, v = .slice T told.length ct /\ w.ownsRow B 35 1 v told.length tv /\ Rel2 (RowR w B []) tv told
def DoTo (w0 : World) (Z : List Nat) (gs ms gp r c : Nat) (A : Option Addr) (M : Mod) (nm : List Nat) (xs : List StepV) (e : Ending) (w' : World) : Prop :=
  Only (ms :: foot gp r M.fl) w0 w' /\ ∃ M' n told v kv', DoR M nm xs M' n told /\ StoreAt w' Z gs ms gp r c A M' kv' /\ e = .returned (.tuple #[v, errV n]) /\ ToldR w' w0.heap.size v told
theorem ToldR.nil (w : World) (B : Nat) : ToldR w B (.slice none 0 0) [] := ⟨none, 0, [], rfl, World.ownsRow_nil _ _ _ _, .nil⟩
theorem x4D {bl : List Bool} {W : Wk} {x : StepV} {xs : List StepV} : runW bl W (x :: xs) = if (stepW bl W x).2 = 0 then runW bl (stepW bl W x).1 xs else stepW bl W x := rfl
set_option maxHeartbeats 8000000 in
theorem xNP {w0 : World} {Z : List Nat} {gs ms gp r c1 n0 B cs : Nat} {A1 As : Option Addr} {M : Mod} {kvs : KV} (h : StoreAt w0 Z gs ms gp r c1 A1 M kvs) (hZ : ms ∈ Z) (hZl : ∀ z ∈ Z, z < w0.heap.size) (hI : Inv n0 M) (hn0 : n0 <= 900000) (nm : List Nat) (hsm : Small nm) (hnm : nm.length <= 1000000)
    {l : List SV} (hl : StepsR w0 B As l) (hB : B <= w0.heap.size) (hll : l.length <= cs) (hl6 : l.length <= 1000000) :
    Calls Tryz.prog 19 #[.pointer (some ⟨gs, 0, none⟩), .string (strOf nm), .slice As l.length cs] w0 (DoTo w0 Z gs ms gp r c1 A1 M nm (l.map SV.x)) := by
  have HH := kH (kA h (kA hZ (kA hZl hI)))
  have HL := kH hl
  have HNM := kH (x3S nm hsm hnm w0)
  have hkn : kvs.length <= 1000000 := by rw [h.obs.len]; have := hI.few; omega
  have HKN := kH hkn
  clear h hZ hZl hI hl hkn
  go_enter Tryz.func19, Tryz.ntmps19
  go_wp2_with fail
  refine HNM.out.mono ?_
  rintro e w1 ⟨rfl, hb1⟩
  have h1 := HH.out.1.below hb1
  have HB1 := kH hb1
  have H1 := kH h1
  clear h1 hb1 HNM
  have hrange : ∀ w', Below w0.heap.size w0 w' -> (isNameB nm = false ∨ (l.map SV.x).length < 1 ∨ 16 < (l.map SV.x).length) -> DoTo w0 Z gs ms gp r c1 A1 M nm (l.map SV.x) (.returned (.tuple #[.slice none 0 0, errV 1])) w' := fun w' hb hr => ⟨Only.of_below hb _, M, 1, [], _, kvs, .range hr, HH.out.1.below hb, rfl, ToldR.nil _ _⟩
  have HRG := kH hrange
  clear hrange
  simp only [errV] at HRG
  cases hnb : isNameB nm
  · have HN := kH hnb
    clear hnb
    go_wp2
    go_ret2
    exact HRG.out _ HB1.out (.inl HN.out)
  by_cases hlo : l.length < 1
  · have hd : decide ((l.length : Int) < 1) = true := decide_eq_true (by omega)
    have HN := kH hnb
    clear hnb
    go_wp2
    go_ret2
    exact HRG.out _ HB1.out (.inr (.inl (by simpa using hlo)))
  by_cases hhi : 16 < l.length
  · have hd : decide ((l.length : Int) < 1) = false := decide_eq_false (by omega)
    have hd2 : decide ((16 : Int) < (l.length : Int)) = true := decide_eq_true (by omega)
    have HN := kH hnb
    clear hnb
    go_wp2
    go_ret2
    exact HRG.out _ HB1.out (.inr (.inr (by simpa using hhi)))
  have hd : decide ((l.length : Int) < 1) = false := decide_eq_false (by omega)
  have hd2 : decide ((16 : Int) < (l.length : Int)) = false := decide_eq_false (by omega)
  have HN := kH hnb
  clear hnb HRG
  have HBG := kH (xJN H1.out nm hnm (fun p hp => by
    have ho := HH.out.2.2.2.obs p hp
    have hg := HH.out.2.2.2.good
    have hcn := x8R hg
    have hsub : ∀ e ∈ p.2.e, e ∈ exts M.ob := fun e he => List.mem_flatMap.2 ⟨p, hp, he⟩
    have hpe := x28 (L := p.2.e) (fun e he => hg.pos e (hsub e he))
    have := ho.e
    have := ho.d
    unfold needsB at this
    exact ⟨ho.d, by have := ho.e; have := ho.d; unfold needsB at *; omega⟩))
  go_wp2_with fail
  refine HBG.out.mono ?_
  rintro e w2 ⟨gw, rfl, hwk2, hb2⟩
  have hb02 : Below w0.heap.size w0 w2 := HB1.out.trans (hb2.mono HB1.out.size)
  have HW2 : Hid (Wkd w2 w0.heap.size gw gs (startW M (keyB nm))) := kH (by
    obtain ⟨c, ce, ct, D, E, T, av, kv, tv, hw⟩ := hwk2
    have hs := HB1.out.size
    exact ⟨c, ce, ct, D, E, T, av, kv, tv, ⟨hw.blk, by have := hw.gB; omega, x0A hw.dat hs, hw.ok, by
      rcases hw.map with e | ⟨mb, e, h1, h2⟩
      · exact .inl e
      · exact .inr ⟨mb, e, by omega, h2⟩, hw.att, x0A hw.ext hs, x0A hw.tol hs, hw.els.imp fun a b hr => hr.weaken hs⟩⟩)
  have HB2 := kH hb02
  clear hb02 hb2 hwk2 HBG
  go_wp2
  go_loopw [35] (fun i wr => ∃ (k : Nat) (Wk : Wk), k <= l.length /\ i = .int .i64 k /\ Wkd wr w0.heap.size gw gs Wk /\ Below w0.heap.size w0 wr /\ WB (n0 + k) Wk /\ Wk.e = (startW M (keyB nm)).e /\ runW M.bl (startW M (keyB nm)) (l.map SV.x) = runW M.bl Wk ((l.map SV.x).drop k)) (fun i _ => l.length - (intS i).toNat)
  case atStart => exact ⟨0, _, Nat.zero_le _, rfl, HW2.out, HB2.out, xDG HH.out.2.2.2 _, rfl, by simp⟩
  case round =>
    obtain ⟨k, Wk, hk, rfl, hwk, hb, hwb, hwe, hrun⟩ := hrel
    obtain ⟨c, ce, ct, D, E, T, av, kv, tv, hw⟩ := hwk
    obtain ⟨wo, hwo⟩ : ∃ wo, wo = wr := ⟨_, rfl⟩
    subst hwo
    have HW := kH (kA hw (kA hb (kA hwb (kA hwe hrun))))
    have hgwl := hw.blk.lt
    clear hw hb hwb hwe hrun HW2
    have hwk1 : IntKind.i64.wrap ((k : Int) + 1) = (k : Int) + 1 := by rw [IntKind.wrap_i64]; omega
    by_cases hlt : k < l.length
    -- {R
    · obtain ⟨s, hs⟩ : ∃ s, l[k]? = some s := ⟨_, List.getElem?_eq_getElem hlt⟩
      obtain ⟨ad, rfl, hab, hc⟩ := (HL.out.since HW.out.2.1).get hs
      have HS := kH hs
      clear hs
      have hx := HL.out.els s (List.mem_of_getElem? HS.out)
      have hdr : (l.map SV.x).drop k = s.x :: (l.map SV.x).drop (k + 1) := by
        have hkl : k < (l.map SV.x).length := by simpa using hlt
        rw [List.drop_eq_getElem_cons hkl]
        congr 1
        have := HS.out
        rw [List.getElem?_eq_getElem hlt] at this
        injection this with this
        simp [this]
      have HDR := kH hdr
      have HD : Hid (∀ w3, Below wo.heap.size wo w3 -> Calls Tryz.prog 65 #[.pointer (some ⟨gw, 0, none⟩), .agg #[.int .i64 s.x.kd, .int .i64 s.x.at_, .int .i64 s.x.ln, .string (strOf s.x.nm), .slice s.D s.x.dt.length s.c]] w3 (StepTo w3 w0.heap.size gw gs (stepW M.bl Wk s.x).1 (errV (stepW M.bl Wk s.x).2))) := kH fun w3 hb3 => by
        have hb03 : Below w0.heap.size w0 w3 := HW.out.2.1.trans (hb3.mono HW.out.2.1.size)
        have hbw := HW.out.2.2.1
        exact xO8 (cx := s.c) (HW.out.1.below hb3) hb03.size ⟨hbw.d, by have := hbw.a; omega, by have := hbw.t; omega, fun k bs hg => by have := hbw.v _ (x1O hg); simp only at this; omega⟩ (hx.since hb03) hB (fun w' hb' => xEP (HH.out.1.st.below (hb03.trans (hb'.mono hb03.size))) _)
      clear hx hdr
      go_wp2_with (have _h := hc; refine x1Y rfl (.tmp 37) rfl _ rfl s hc ?_; clear _h hc)
      refine (HD.out _ (x06 _ _)).mono ?_
      rintro e w4 ⟨rfl, hwk4, hb4⟩
      have hb04 : Below w0.heap.size w0 w4 := (HW.out.2.1.alloc HW.out.2.1.size _).trans hb4
      have HW4 := kH (kA hwk4 hb04)
      clear hwk4 hb4 hb04 HD
      obtain ⟨hwb1, hwe1⟩ := xFP (bl := M.bl) (x := s.x) HW.out.2.2.1
      have HWB := kH (kA hwb1 (hwe1.trans HW.out.2.2.2.1))
      have hrn := HW.out.2.2.2.2
      rw [HDR.out, x4D] at hrn
      clear hwb1 hwe1
      cases hz : (stepW M.bl Wk s.x).2 with
      | zero =>
        rw [if_pos hz] at hrn
        have HRN := kH hrn
        clear hrn hz
        simp only [errV]
        go_wp2
        go_roundw
        case rel => exact ⟨k + 1, _, by omega, by go_num, HW4.out.1, HW4.out.2, by have := HWB.out.1; rwa [Nat.add_assoc] at this, HWB.out.2, HRN.out⟩
        case measure => simp [intS]; omega
      | succ n =>
        have hne : ¬ ((stepW M.bl Wk s.x).2 = 0) := by rw [hz]; omega
        rw [if_neg hne] at hrn
        have hfin : DoTo w0 Z gs ms gp r c1 A1 M nm (l.map SV.x) (.returned (.tuple #[.slice none 0 0, errV (n + 1)])) w4 := by
          refine ⟨Only.of_below HW4.out.2 _, M, n + 1, [], _, kvs, ?_, HH.out.1.below HW4.out.2, rfl, ToldR.nil _ _⟩
          have he : (runW M.bl (startW M (keyB nm)) (l.map SV.x)).2 = n + 1 := by rw [hrn, hz]
          rw [<- he]
          exact .step HN.out (by simp; omega) (by simp; omega) (by rw [he]; omega)
        have HFIN := kH hfin
        clear hfin hrn hz hne
        simp only [errV] at HFIN ⊢
        go_wp2
        go_ret2
        exact HFIN.out
    -- R}
    · obtain rfl : k = l.length := by omega
      have hrn := HW.out.2.2.2.2
      rw [List.drop_eq_nil_of_le (by simp)] at hrn
      have hrn' : runW M.bl (startW M (keyB nm)) (l.map SV.x) = (Wk, 0) := hrn
      obtain ⟨e1, e2, e3, e4⟩ := x6F HH.out.2.2.2 (keyB nm)
      rw [<- HW.out.2.2.2.1] at e1 e2 e3
      have HE := kH (xOM HW.out.1 HW.out.2.1 HH.out.1 HH.out.2.1 HH.out.2.2.1 HKN.out nm hnm HW.out.2.2.1.d e1 e2 e3 (fun hlt => by
        have := xNY HH.out.2.2.2 (keyB nm) (m := lens Wk.e - needsB Wk.d) (by rw [<- HW.out.2.2.2.1]; omega)
        rw [<- HW.out.2.2.2.1] at this
        exact this))
      have HRN := kH hrn'
      clear hrn hrn' e1 e2 e3 e4 hlt
      go_wp2_with fail
      refine HE.out.mono ?_
      rintro e w5 ⟨hon, es, fl', n, hfit, rfl, ⟨rfl, hst⟩ | ⟨rfl, ⟨kv', hst⟩, T5, ct5, tv5, c4, hown5, hels5⟩⟩
      · have hfin : DoTo w0 Z gs ms gp r c1 A1 M nm (l.map SV.x) (.returned (.tuple #[.slice none 0 0, errV 4])) w5 := by
          refine ⟨hon, M, 4, [], _, kvs, .full (es := es) (fl := fl') HN.out (by simp; omega) (by simp; omega) (by rw [HRN.out]) (by rw [HRN.out]; exact hfit), hst, rfl, ToldR.nil _ _⟩
        have HFIN := kH hfin
        clear hfin hon hfit hst
        simp only [errV] at HFIN ⊢
        go_wp2
        go_ret2
        exact HFIN.out
      · have hfin : DoTo w0 Z gs ms gp r c1 A1 M nm (l.map SV.x) (.returned (.tuple #[.slice T5 Wk.told.length ct5, errV 0])) w5 := by
          refine ⟨hon, endM M (keyB nm) Wk es fl', 0, Wk.told, _, kv', ?_, hst, rfl, T5, ct5, tv5, rfl, hown5, hels5⟩
          have hdn := DoR.done (M := M) (nm := nm) (xs := l.map SV.x) (es := es) (fl := fl') HN.out (by simp; omega) (by simp; omega) (by rw [HRN.out]) (by rw [HRN.out]; exact hfit)
          rw [HRN.out] at hdn
          exact hdn
        have HFIN := kH hfin
        clear hfin hon hfit hst hown5 hels5
        simp only [errV] at HFIN ⊢
        go_wp2
        go_ret2
        exact HFIN.out
end
section
open Go.RowKit
def Srdat (w : World) (base : Nat) (F : List Nat) (g : Nat) (s : RD) : Prop :=
  ∃ A c, F = g :: (A.map Addr.block).toList /\ Blk w g 259 #[.slice A s.bs.length c, .bool s.bad] /\ Bytes w w.heap.size A s.bs.length s.bs /\ s.bs.length <= c /\ c <= maxLen /\ base <= g /\ (∀ a, A = some a -> base <= a.block /\ a.block < w.heap.size /\ a.block ≠ g) /\ s.Good
def Srd (w : World) (base : Nat) (F : List Nat) (p : Option Addr) (s : RD) : Prop := (p = none /\ F = [] /\ s = RD.spoilt) ∨ ∃ g, p = some ⟨g, 0, none⟩ /\ Srdat w base F g s
def heads (p : Option Addr) : List Nat := (p.map Addr.block).toList
def Srto (w : World) (base : Nat) (F : List Nat) (p : Option Addr) (s : RD) (w' : World) : Prop := ∃ F', Srd w' base F' p s /\ Only (heads p) w w' /\ ∀ k ∈ F', k ∈ F
section
variable {w w' w1 : World} {base g : Nat} {F : List Nat} {p : Option Addr} {s : RD}
theorem Srdat.of (h : Srdat w base F g s) (hs : w.heap.size <= w'.heap.size) (hk : ∀ k, k ∈ F -> w'.heap[k]? = w.heap[k]?) : Srdat w' base F g s := by
 obtain ⟨A, c, rfl, h1, h2, h3, h4, h5, h6, h7⟩ := h
 refine ⟨A, c, rfl, h1.of (hk g (by simp)), ⟨⟨h2.1.1, fun hn => ?_⟩, h2.2⟩, h3, h4, h5, fun a ha => ⟨(h6 a ha).1, Nat.lt_of_lt_of_le (h6 a ha).2.1 hs, (h6 a ha).2.2⟩, h7⟩
 obtain ⟨ad, e, hB, hc⟩ := h2.1.2 hn
 exact ⟨ad, e, Nat.lt_of_lt_of_le hB hs, fun j u hu => (World.cell?_of_block (hk _ (by rw [x0L, e]; simp))).trans (hc j u hu)⟩
theorem Srdat.under (h : Srdat w base F g s) : Under w F := by
 obtain ⟨A, c, rfl, h1, h2, h3, h4, h5, h6, h7⟩ := h
 intro k hk
 rcases List.mem_cons.1 hk with rfl | hk
 ·exact h1.lt
 ·cases A with
  | none => cases hk
  | some a => simp at hk; subst hk; exact (h6 a rfl).2.1
theorem Srdat.over (h : Srdat w base F g s) : Over base F := by
 obtain ⟨A, c, rfl, h1, h2, h3, h4, h5, h6, h7⟩ := h
 intro k hk
 rcases List.mem_cons.1 hk with rfl | hk
 ·exact h5
 ·cases A with
  | none => cases hk
  | some a => simp at hk; subst hk; exact (h6 a rfl).1
theorem Srd.under (h : Srd w base F p s) : Under w F := by
 rcases h with ⟨_, rfl, _⟩ | ⟨g, _, h⟩
 ·exact fun k hk => by cases hk
 ·exact h.under
theorem Srd.over (h : Srd w base F p s) : Over base F := by
 rcases h with ⟨_, rfl, _⟩ | ⟨g, _, h⟩
 ·exact fun k hk => by cases hk
 ·exact h.over
theorem Srd.of (h : Srd w base F p s) (hs : w.heap.size <= w'.heap.size) (hk : ∀ k, k ∈ F -> w'.heap[k]? = w.heap[k]?) : Srd w' base F p s := by
 rcases h with h | ⟨g, hp, h⟩
 ·exact .inl h
 ·exact .inr ⟨g, hp, h.of hs hk⟩
theorem Srd.below (h : Srd w base F p s) (hb : Below w.heap.size w w') : Srd w' base F p s := h.of hb.size fun k hk => hb.block k (h.under k hk)
theorem Srd.good (h : Srd w base F p s) : s.Good := by
 rcases h with ⟨_, _, rfl⟩ | ⟨g, _, A, c, _, _, _, _, _, _, _, h⟩
 ·exact RD.spoilt_good
 ·exact h
theorem Srd.head (h : Srd w base F p s) : ∀ k ∈ heads p, k ∈ F := fun k hk => by
 rcases h with ⟨rfl, _, _⟩ | ⟨g, rfl, A, c, rfl, _⟩
 ·cases hk
 ·simp [heads] at hk
  simp [hk]
theorem Srto.after {F1 : List Nat} (ho : Only (heads p) w w1) (hf : ∀ k ∈ F1, k ∈ F) (h : Srto w1 base F1 p s w') : Srto w base F p s w' := by
 obtain ⟨F2, h1, h2, h3⟩ := h
 exact ⟨F2, h1, ho.trans h2 (Fresh.refl _ _), fun k hk => hf k (h3 k hk)⟩
theorem Srto.stay (h : Srd w base F p s) : Srto w base F p s w := ⟨F, h, Only.refl _ _, fun _ h => h⟩
theorem Srto.then_ (h : Srto w base F p s w1) (hb : Below w1.heap.size w1 w') : Srto w base F p s w' := by
 obtain ⟨F2, h1, h2, h3⟩ := h
 exact ⟨F2, h1.below hb, h2.trans (Only.of_below hb _) (Fresh.refl _ _), h3⟩
end
theorem x5A (w : World) (base : Nat) (F : List Nat) (p : Option Addr) (s : RD) (h : Srd w base F p s) :
  Calls Tryz.prog 220 #[.pointer p] w fun e w' => e = .returned (.int .i64 s.bs.length) /\ w = w' := by
 rcases h with ⟨rfl, rfl, rfl⟩ | ⟨g, rfl, A, c, rfl, h1, h2, h3, h4, h5, h6, h7⟩
 ·go_enter Tryz.func220, Tryz.ntmps220
  go_wp2
  go_ret
  exact ⟨rfl, rfl⟩
 ·have hc : w.cell? ⟨g, 0, none⟩ = some (.slice A s.bs.length c) := by rw [h1.cell]; rfl
  go_enter Tryz.func220, Tryz.ntmps220
  go_wp2
  go_ret
  exact ⟨rfl, rfl⟩
theorem xBV (w : World) : (zeroValue 259).run Tryz.prog w = .ok (.agg #[.slice none 0 0, .bool false]) w := by kernel_rfl
theorem x4P (w : World) (base : Nat) (F : List Nat) (p : Option Addr) (s : RD) (h : Srd w base F p s) :
  Calls Tryz.prog 185 #[.pointer p] w fun e w' => e = .returned (.tuple #[]) /\ Srto w base F p RD.spoilt w' := by
 rcases h with ⟨rfl, rfl, rfl⟩ | ⟨g, rfl, A, c, rfl, h1, h2, h3, h4, h5, h6, h7⟩
 ·go_enter Tryz.func185, Tryz.ntmps185
  go_wp2
  refine bodyPost_end (results_none rfl _ _ _) rfl ?_
  exact ⟨rfl, Srto.stay (.inl ⟨rfl, rfl, rfl⟩)⟩
 ·have hc0 : w.cell? ⟨g, 0, none⟩ = some (.slice A s.bs.length c) := by rw [h1.cell]; rfl
  have hc1 : w.cell? ⟨g, 1, none⟩ = some (.bool s.bad) := by rw [h1.cell]; rfl
  have hf0 : w.frozen? ⟨g, 0, none⟩ = false := h1.frozen _
  have hf1 : w.frozen? ⟨g, 1, none⟩ = false := h1.frozen _
  have hz := xBV
  go_enter Tryz.func185, Tryz.ntmps185
  go_wp2
  refine bodyPost_end (results_none rfl _ _ _) rfl ?_
  have hb2 : Blk ((w.setCell ⟨g, 0, none⟩ (.slice none 0 0)).setCell ⟨g, 1, none⟩ (.bool true)) g 259 #[.slice none 0 0, .bool true] := (h1.set_ 0 _).set_ 1 _
  exact ⟨rfl, [g], .inr ⟨g, rfl, none, 0, rfl, hb2, ⟨Reads.none_, fun b hb => by cases hb⟩, Nat.le_refl _, by simp [maxLen], h5, fun a ha => (by cases ha), RD.spoilt_good⟩,
   ((Only.refl _ _).setCell (.inl (by simp [heads])) _).setCell (.inl (by simp [heads])) _, fun k hk => (by simp at hk; subst hk; simp)⟩
theorem x5W (A : Option Addr) (k cap : Nat) (a : Addr) (h : (if cap = k then A else A.map (·.add k)) = some a) : ∃ a', A = some a' /\ a'.block = a.block := by
 split at h
 ·exact ⟨a, h, rfl⟩
 ·cases A with
  | none => cases h
  | some a' => simp at h; exact ⟨a', rfl, by rw [<- h, x0L]⟩
theorem xE7 (w : World) (base g k : Nat) (A : Option Addr) (c : Nat) (s : RD) (h1 : Blk w g 259 #[.slice A s.bs.length c, .bool s.bad]) (h2 : Bytes w w.heap.size A s.bs.length s.bs) (h3 : s.bs.length <= c) (h4 : c <= maxLen) (h5 : base <= g) (h6 : ∀ a, A = some a -> base <= a.block /\ a.block < w.heap.size /\ a.block ≠ g) (h7 : s.Good) (hk : k <= s.bs.length) (hbad : s.bad = false) :
    Srto w base (g :: (A.map Addr.block).toList) (some ⟨g, 0, none⟩) ⟨s.bs.drop k, false⟩ (w.setCell ⟨g, 0, none⟩ (.slice (if c = k then A else A.map (·.add k)) (s.bs.length - k) (c - k))) ∧
    Bytes (w.setCell ⟨g, 0, none⟩ (.slice (if c = k then A else A.map (·.add k)) (s.bs.length - k) (c - k))) w.heap.size A k (s.bs.take k) := by
  have hset : ∀ (B n : Nat) (A' : Option Addr) (bs : List Nat) (v : Value), Bytes w B A' n bs -> (∀ a, A' = some a -> a.block ≠ g) -> Bytes (w.setCell ⟨g, 0, none⟩ v) B A' n bs := fun B n A' bs v h hne =>
    ⟨⟨h.1.1, fun hn => by
      obtain ⟨ad, e, hB, hc⟩ := h.1.2 hn
      exact ⟨ad, e, hB, fun j u hu => (World.cell?_setCell_other _ _ _ _ (fun e' => hne ad e (by have := congrArg Addr.block e'; rw [x0L] at this; exact this.symm))).trans (hc j u hu)⟩⟩, h.2⟩
  have hcut : Bytes w w.heap.size (if c = k then A else A.map (·.add k)) (s.bs.length - k) (s.bs.drop k) := by
    have := h2.1.cut hk h3
    rw [Nat.mul_one, u8s, <- List.map_drop] at this
    exact ⟨this, fun b hb => h2.2 b (List.mem_of_mem_drop hb)⟩
  refine ⟨⟨g :: ((if c = k then A else A.map (·.add k)).map Addr.block).toList, .inr ⟨g, rfl, _, c - k, rfl, ?_, ?_, ?_, by omega, h5, fun a ha => ?_, ?_⟩, (Only.refl _ _).setCell (.inl (by simp [heads])) _, fun j hj => ?_⟩, hset _ _ _ _ _ (h2.take hk) (fun a ha => (h6 a ha).2.2)⟩
  · have := h1.set_ 0 (.slice (if c = k then A else A.map (·.add k)) (s.bs.length - k) (c - k))
    rw [hbad] at this
    simpa using this
  · have := hset _ _ _ _ (.slice (if c = k then A else A.map (·.add k)) (s.bs.length - k) (c - k)) hcut (fun a ha => by
      obtain ⟨a', h, hb⟩ := x5W A k c a ha
      rw [<- hb]
      exact (h6 a' h).2.2)
    simp only [List.length_drop]
    exact this.more (by simp [World.setCell])
  · simp only [List.length_drop]; omega
  · obtain ⟨a', h, hb⟩ := x5W A k c a ha
    rw [<- hb]
    have := h6 a' h
    exact ⟨this.1, by simpa [World.setCell] using this.2.1, this.2.2⟩
  · exact ⟨fun e => (by cases e), fun b hb => h7.2 b (List.mem_of_mem_drop hb)⟩
  · rcases List.mem_cons.1 hj with rfl | hj
    · simp
    · refine List.mem_cons_of_mem _ ?_
      simp only [Option.mem_toList, Option.mem_def, Option.map_eq_some_iff] at hj ⊢
      obtain ⟨a, ha, rfl⟩ := hj
      obtain ⟨a', h, hb⟩ := x5W A k c a ha
      exact ⟨a', h, hb⟩
theorem x3O (w : World) (base : Nat) (F : List Nat) (p : Option Addr) (s : RD) (n : Int) (h : Srd w base F p s) (hn1 : -9223372036854775808 <= n) (hn2 : n <= 9223372036854775807) :
  Calls Tryz.prog 182 #[.pointer p, .int .i64 n] w fun e w' => ∃ A c, e = .returned (.slice A (s.got n).length c) /\ Srto w base F p (s.take n) w' /\ (∃ B, Bytes w' B A (s.got n).length (s.got n)) /\ (∀ a, A = some a -> a.block ∈ F) /\ (A = none -> (s.got n).length = 0) := by
 by_cases h0 : n < 0
 ·obtain ⟨e1, e2⟩ := RD.take_un (s := s) (.inl h0)
  rw [e1, e2]
  have hd : decide (n < 0) = true := by simpa using h0
  go_enter Tryz.func182, Tryz.ntmps182
  go_wp2_with fail
  refine (x4P w base F p s h).mono ?_
  rintro e w1 ⟨rfl, r1⟩
  go_wp2
  go_ret
  exact ⟨none, 0, rfl, r1, ⟨0, Reads.none_, fun b hb => by cases hb⟩, fun a ha => (by cases ha), by simp⟩
 ·have hd : decide (n < 0) = false := by simpa using h0
  by_cases hl : (s.bs.length : Int) < n
  ·obtain ⟨e1, e2⟩ := RD.take_un (s := s) (n := n) (.inr (.inl hl))
   rw [e1, e2]
   have hd2 : decide ((s.bs.length : Int) < n) = true := by simpa using hl
   go_enter Tryz.func182, Tryz.ntmps182
   go_wp2_with fail
   refine (x5A w base F p s h).mono ?_
   rintro e w1 ⟨rfl, rfl⟩
   go_wp2_with fail
   refine (x4P w base F p s h).mono ?_
   rintro e w1 ⟨rfl, r1⟩
   go_wp2
   go_ret
   exact ⟨none, 0, rfl, r1, ⟨0, Reads.none_, fun b hb => by cases hb⟩, fun a ha => (by cases ha), by simp⟩
  ·have hd2 : decide ((s.bs.length : Int) < n) = false := by simpa using hl
   obtain ⟨k, rfl⟩ := Int.eq_ofNat_of_zero_le (show 0 <= n by omega)
   by_cases hk0 : k = 0
   ·subst hk0
    have hd3 : (((0 : Nat) : Int) == 0) = true := rfl
    have e1 : s.take ((0 : Nat) : Int) = s /\ s.got ((0 : Nat) : Int) = [] := by
     cases hb : s.bad with
     | true => rw [RD.eta h.good hb]; exact ⟨rfl, rfl⟩
     | false =>
      obtain ⟨e1, e2⟩ := RD.take_fit (k := 0) hb (Nat.zero_le _)
      rw [e1, e2]
      obtain ⟨bs, bad⟩ := s
      simp at hb
      subst hb
      exact ⟨rfl, rfl⟩
    rw [e1.1, e1.2]
    go_enter Tryz.func182, Tryz.ntmps182
    go_wp2_with fail
    refine (x5A w base F p s h).mono ?_
    rintro e w1 ⟨rfl, rfl⟩
    go_wp2
    go_ret
    exact ⟨none, 0, rfl, Srto.stay h, ⟨0, Reads.none_, fun b hb => by cases hb⟩, fun a ha => (by cases ha), by simp⟩
   ·have hd3 : ((k : Int) == 0) = false := by simp; omega
    have hkl : k <= s.bs.length := by omega
    have hbad : s.bad = false := by
     cases hb : s.bad with
     | false => rfl
     | true => have := h.good.1 hb; rw [this] at hkl; simp at hkl; omega
    obtain ⟨e1, e2⟩ := RD.take_fit hbad hkl
    rw [e1, e2]
    have hlc := x5A w base F p s h
    rcases h with ⟨rfl, rfl, rfl⟩ | ⟨g, rfl, A, c, rfl, h1, h2, h3, h4, h5, h6, h7⟩
    ·simp [RD.spoilt] at hkl; omega
    ·have hc0 : w.cell? ⟨g, 0, none⟩ = some (.slice A s.bs.length c) := by rw [h1.cell]; rfl
     have hf0 : w.frozen? ⟨g, 0, none⟩ = false := h1.frozen _
     unfold maxLen at h4
     have q1 : (0 : Int) <= (k : Int) := by omega
     have q2 : (k : Int) <= (c : Int) := by omega
     have q3 : (k : Int) <= (s.bs.length : Int) := by omega
     have hkc : k <= c := by omega
     go_enter Tryz.func182, Tryz.ntmps182
     go_wp2_with fail
     refine hlc.mono ?_
     rintro e w1 ⟨he, hw⟩
     subst hw
     subst he
     have hdone := xE7 w base g k A c s h1 h2 h3 h4 h5 h6 h7 hkl hbad
     have hlen : (s.bs.take k).length = k := by rw [List.length_take]; omega
     have hAF : ∀ a, A = some a -> a.block ∈ g :: (A.map Addr.block).toList := fun a ha => by subst ha; simp
     have hAn : A = none -> (s.bs.take k).length = 0 := fun ha => by
      subst ha
      obtain ⟨_, h, _⟩ := h2.1.2 (by omega)
      cases h
     have HD := kH hdone
     have HAF := kH hAF
     have HAn := kH hAn
     clear hdone hAF hAn
     by_cases hck : c = k
     ·have hHD := HD.out
      rw [if_pos hck] at hHD
      have HD2 := kH hHD
      clear hHD HD
      subst hck
      go_wp2
      go_ret
      rw [hlen]
      have := HD2.out
      rw [Nat.sub_self, show s.bs.length - c = 0 by omega] at this
      exact ⟨A, _, rfl, this.1, ⟨_, this.2⟩, HAF.out, by rw [<- hlen]; exact HAn.out⟩
     ·have hHD := HD.out
      rw [if_neg hck] at hHD
      have HD2 := kH hHD
      clear hHD HD
      go_wp2
      go_ret
      rw [hlen]
      exact ⟨A, _, rfl, HD2.out.1, ⟨_, HD2.out.2⟩, HAF.out, by rw [<- hlen]; exact HAn.out⟩
end
section
open Go.RowKit
theorem x78 : (Tryz.prog.info? 5).map (·.size) = some 1 := by kernel_rfl
theorem x4W {o : Oper} {a : Act} {w : World} {K : Act -> World -> Prop} {Q : Exit -> Act -> World -> Prop} (x y : Operand) (ho : o.op = .call { callee := .builtin .copy, args := #[x, y], argTypes := #[35, 35] })
  (gb m : Nat) (t : TypeId) (cur : List Value) (hg : Blk w gb t cur.toArray) (hcur : cur.length = m) (hx : a.eval x = .slice (some ⟨gb, 0, none⟩) m m) (A : Option Addr) (k c B : Nat) (bs : List Nat) (hy : a.eval y = .slice A k c) (hb : Bytes w B A k bs) (hk : k = m ∨ k = 0) (hm : 0 < m)
  (h : ∀ w', Blk w' gb t (if k = 0 then cur else u8s bs).toArray -> Only [gb] w w' -> K (a.put o.dst (goInt k)) w') : o.wp Tryz.prog a w K Q := by
 rcases hk with rfl | rfl
 ·obtain ⟨ad, rfl, hB, hc⟩ := hb.1.2 hm
  have hl : (u8s bs).length = k := by rw [x0C, hb.len]
  have hrun := run_copy_row (P := Tryz.prog) w 35 35 o.type 5 gb 0 k k ad k c cur.toArray t (u8s bs) Tryz.underlying35 x78 hg (by rw [hl]; exact (Nat.min_self k).symm) hc (by simp [hl, hcur]) (x1R _)
  unfold Oper.wp
  simp [execOp, ho, resolve, invoke, builtin, hx, hy, hrun, Result.andThen]
  rw [hl]
  refine h _ ?_ ?_
  ·rw [if_neg (by omega)]
   have := setRow_heap w gb cur.toArray (u8s bs).toArray t (0, 0) hg
   have e : (u8s bs ++ List.drop k cur).toArray = (u8s bs).toArray := by rw [List.drop_of_length_le (by omega), List.append_nil]
   unfold Blk
   simpa [e, hl, hcur, List.drop_of_length_le (show cur.length <= k by omega)] using this
  ·exact ⟨rfl, rfl, rfl, by simp [World.setRow], fun j hj hn => setRow_other w gb j _ (fun e => hn (by simp [e]))⟩
 ·have hrun := run_copy_none (P := Tryz.prog) w 35 35 o.type 5 (some ⟨gb, 0, none⟩) A m m 0 c Tryz.underlying35 x78 (Nat.zero_min m)
  unfold Oper.wp
  simp [execOp, ho, resolve, invoke, builtin, hx, hy, hrun, Result.andThen]
  exact h w (by simpa using hg) (Only.refl _ _)
theorem x71 (s : RD) (k : Nat) : (s.got k).length = k ∨ (s.got k).length = 0 := by
 unfold RD.got
 split
 ·rename_i h
  simp [RD.fits] at h
  left
  rw [List.length_take]
  omega
 ·exact .inr rfl
theorem x9M (l : List Nat) (hl : l.length = 8) (hb : ∀ b ∈ l, b < 256) (w : World) :
  Calls Tryz.prog 183 #[.agg (u8s l).toArray] w fun e w' => e = .returned (.int .i64 (numOf l)) /\ Below w.heap.size w w' := by
 match l, hl with
 | [b0, b1, b2, b3, b4, b5, b6, b7], _ => exact x75 b0 b1 b2 b3 b4 b5 b6 b7 w (hb _ (by simp)) (hb _ (by simp)) (hb _ (by simp)) (hb _ (by simp)) (hb _ (by simp)) (hb _ (by simp)) (hb _ (by simp)) (hb _ (by simp))
def srpadded (m : Nat) (l : List Nat) : List Nat := if l.length = 0 then List.replicate m 0 else l
theorem xA6 (l : List Nat) : numOf (srpadded 8 l) = numOf l := by
 unfold srpadded
 split
 ·rename_i h
  obtain rfl := List.eq_nil_of_length_eq_zero h
  simp [numOf, un, List.replicate]
 ·rfl
theorem x1P (w : World) (base : Nat) (F : List Nat) (p : Option Addr) (s : RD) (h : Srd w base F p s) (hB : base <= w.heap.size) :
  Calls Tryz.prog 121 #[.pointer p] w fun e w' => e = .returned (.int .i64 s.num) /\ Srto w base F p (s.take 8) w' := by
 obtain ⟨Zs, hz, hZs⟩ : ∃ Zs : List Value, (∀ w, (zeroValue 186).run Tryz.prog w = .ok (.agg Zs.toArray) w) /\ Zs = u8s (List.replicate 8 0) := ⟨_, x3Q, rfl⟩
 have hzl : Zs.length = 8 := by rw [hZs, x0C]; rfl
 have HZ := kH hZs
 clear hZs
 have B0 := kH (Blk.new w 186 Zs.toArray)
 have b0 := x0D w (.cells Zs.toArray 186)
 have H0 := kH (h.below b0)
 have hgw : w.heap.size ∉ F := fun hm => by have := h.under _ hm; omega
 have b0' := kH b0
 clear h b0
 go_enter Tryz.func121, Tryz.ntmps121
 go_wp2_with fail
 have hBw : base <= (w.alloc (.cells Zs.toArray 186)).heap.size := Nat.le_trans hB b0'.out.size
 generalize w.alloc (.cells Zs.toArray 186) = w0 at *
 generalize hgb : w.heap.size = gb at *
 refine x2B (by kernel_rfl) ?_
 refine wpAny_take (i := 0) (v := .slice (some ⟨gb, 0, none⟩) 8 8) rfl (by kernel_rfl) (by kernel_rfl) (by kernel_rfl) (fun _ _ _ h => h) (Or.inl ⟨by rfl, fun w => by go_simp⟩) ?_
 simp only [Act.put, nB, nC, nD, nE, nF, nG]
 refine wpAny_take (i := 1) (v := .pointer p) rfl (by kernel_rfl) (by kernel_rfl) (by kernel_rfl) (fun _ _ _ h => h) (Or.inl ⟨by rfl, fun w => by kernel_rfl⟩) ?_
 simp only [Act.put, nB, nC, nD, nE, nF, nG]
 refine x1I (i := 2) (by kernel_rfl) rfl (by rfl) ?_
 simp only [Act.put, nB, nC, nD, nE, nF, nG]
 refine x03 (by kernel_rfl) (x3O w0.drew base F p s 8 (H0.out.of (Nat.le_refl _) (fun _ _ => rfl)) (by omega) (by omega)) ?_
 rintro e w1 ⟨A, c, rfl, ⟨F1, r1, o1, f1⟩, ⟨B, hb⟩, -, -⟩
 refine ⟨_, rfl, ?_⟩
 simp only [Act.put, nB, nC, nD, nE, nF, nG]
 have B1 : Blk w1 gb 186 Zs.toArray := B0.out.of (o1.block gb B0.out.lt (fun hm => hgw (H0.out.head _ hm)))
 refine x1I (i := 3) (by kernel_rfl) rfl (by rfl) ?_
 simp only [Act.put, nB, nC, nD, nE, nF, nG]
 refine x4W (.tmp 4) (.tmp 6) rfl gb 8 186 Zs B1 hzl (by rfl) A _ c B _ (by rfl) hb (x71 s 8) (by omega) ?_
 intro w2 B2 o2
 simp only [Act.put, nB, nC, nD, nE, nF, nG]
 refine wpAny_done (by kernel_rfl) ?_ _
 refine NoPanic.normal ?_
 have hpad : (if (s.got 8).length = 0 then Zs else u8s (s.got 8)) = u8s (srpadded 8 (s.got 8)) := by
  unfold srpadded
  rw [HZ.out]
  split
  ·rfl
  ·rfl
 rw [hpad] at B2
 have hgood := (H0.out.good)
 have hpl : (srpadded 8 (s.got 8)).length = 8 := by
  unfold srpadded
  split
  ·simp
  ·exact (x71 s 8).resolve_right (by assumption)
 have hpb : ∀ b ∈ srpadded 8 (s.got 8), b < 256 := by
  unfold srpadded
  split
  ·intro b hb; obtain ⟨_, rfl⟩ := List.mem_replicate.1 hb; omega
  ·exact RD.got_lt hgood 8
 have R2 : Srto w base F p (s.take 8) w2 := by
  refine ⟨F1, r1.of o2.size (fun k hk => o2.block k (r1.under k hk) (fun hm => ?_)), ((Only.of_below (w' := w0.drew) (by rw [hgb]; exact b0'.out.drew) (heads p)).trans (F' := heads p) o1 (Fresh.refl _ _)).trans o2 (fun k hk => .inr (by simp at hk; omega)), f1⟩
  simp at hm
  subst hm
  exact hgw (f1 _ hk)
 have HR := kH R2
 have H2 := kH B2
 have hrg : w2.rangeAt gb 0 (u8s (srpadded 8 (s.got 8))) := B2.range
 have hi : (Tryz.prog.info? 186).map (·.size) = some (u8s (srpadded 8 (s.got 8))).length := by rw [x0C, hpl]; exact x5M
 have hu := Tryz.underlying186
 have HP := kH (kA hpl hpb)
 clear hpad hpl hpb R2 B2 o2 hb B1 r1 o1 f1 hgood
 go_wp2_with (refine wpList_load_mid rfl 186 (.tmp 3) rfl gb 0 rfl (u8s (srpadded 8 (s.got 8))) _ hrg hu rfl hi ?_)
 refine (x9M _ HP.out.1 HP.out.2 w2).mono ?_
 rintro e w3 ⟨rfl, b3⟩
 rw [xA6]
 go_wp2
 go_ret
 exact ⟨rfl, HR.out.then_ b3⟩
theorem xGL (w : World) : (zeroValue 293).run Tryz.prog w = .ok (.agg (u8s (List.replicate 1 0)).toArray) w := by kernel_rfl
theorem x89 (w : World) (base : Nat) (F : List Nat) (p : Option Addr) (s : RD) (h : Srd w base F p s) (hB : base <= w.heap.size) :
  Calls Tryz.prog 184 #[.pointer p] w fun e w' => e = .returned (.int .u8 s.byte) /\ Srto w base F p (s.take 1) w' := by
 obtain ⟨Zs, hz, hZs⟩ : ∃ Zs : List Value, (∀ w, (zeroValue 293).run Tryz.prog w = .ok (.agg Zs.toArray) w) /\ Zs = u8s (List.replicate 1 0) := ⟨_, xGL, rfl⟩
 have hzl : Zs.length = 1 := by rw [hZs, x0C]; rfl
 have HZ := kH hZs
 clear hZs
 have B0 := kH (Blk.new w 293 Zs.toArray)
 have b0 := x0D w (.cells Zs.toArray 293)
 have H0 := kH (h.below b0)
 have hgw : w.heap.size ∉ F := fun hm => by have := h.under _ hm; omega
 have b0' := kH b0
 clear h b0
 go_enter Tryz.func184, Tryz.ntmps184
 go_wp2_with fail
 have hBw : base <= (w.alloc (.cells Zs.toArray 293)).heap.size := Nat.le_trans hB b0'.out.size
 generalize w.alloc (.cells Zs.toArray 293) = w0 at *
 generalize hgb : w.heap.size = gb at *
 refine x2B (by kernel_rfl) ?_
 refine wpAny_take (i := 0) (v := .slice (some ⟨gb, 0, none⟩) 1 1) rfl (by kernel_rfl) (by kernel_rfl) (by kernel_rfl) (fun _ _ _ h => h) (Or.inl ⟨by rfl, fun w => by go_simp⟩) ?_
 simp only [Act.put, nB, nC, nD, nE, nF, nG]
 refine wpAny_take (i := 1) (v := .pointer p) rfl (by kernel_rfl) (by kernel_rfl) (by kernel_rfl) (fun _ _ _ h => h) (Or.inl ⟨by rfl, fun w => by kernel_rfl⟩) ?_
 simp only [Act.put, nB, nC, nD, nE, nF, nG]
 refine x1I (i := 2) (by kernel_rfl) rfl (by rfl) ?_
 simp only [Act.put, nB, nC, nD, nE, nF, nG]
 refine x03 (by kernel_rfl) (x3O w0.drew base F p s 1 (H0.out.of (Nat.le_refl _) (fun _ _ => rfl)) (by omega) (by omega)) ?_
 rintro e w1 ⟨A, c, rfl, ⟨F1, r1, o1, f1⟩, ⟨B, hb⟩, -, -⟩
 refine ⟨_, rfl, ?_⟩
 simp only [Act.put, nB, nC, nD, nE, nF, nG]
 have B1 : Blk w1 gb 293 Zs.toArray := B0.out.of (o1.block gb B0.out.lt (fun hm => hgw (H0.out.head _ hm)))
 refine x1I (i := 3) (by kernel_rfl) rfl (by rfl) ?_
 simp only [Act.put, nB, nC, nD, nE, nF, nG]
 refine x4W (.tmp 4) (.tmp 6) rfl gb 1 293 Zs B1 hzl (by rfl) A _ c B _ (by rfl) hb (x71 s 1) (by omega) ?_
 intro w2 B2 o2
 simp only [Act.put, nB, nC, nD, nE, nF, nG]
 refine wpAny_done (by kernel_rfl) ?_ _
 refine NoPanic.normal ?_
 have hpad : (if (s.got 1).length = 0 then Zs else u8s (s.got 1)) = u8s (srpadded 1 (s.got 1)) := by
  unfold srpadded
  rw [HZ.out]
  split
  ·rfl
  ·rfl
 rw [hpad] at B2
 have R2 : Srto w base F p (s.take 1) w2 := by
  refine ⟨F1, r1.of o2.size (fun k hk => o2.block k (r1.under k hk) (fun hm => ?_)), ((Only.of_below (w' := w0.drew) (by rw [hgb]; exact b0'.out.drew) (heads p)).trans (F' := heads p) o1 (Fresh.refl _ _)).trans o2 (fun k hk => .inr (by simp at hk; omega)), f1⟩
  simp at hm
  subst hm
  exact hgw (f1 _ hk)
 have hcell : w2.cell? ⟨gb, 0, none⟩ = some (.int .u8 s.byte) := by
  rw [B2.cell]
  unfold RD.byte srpadded
  cases hg : s.got 1 with
  | nil => rfl
  | cons b l => rfl
 have HR := kH R2
 clear hpad R2 B2 o2 hb B1 r1 o1 f1
 go_wp2
 go_ret
 exact ⟨rfl, HR.out⟩
theorem xEO (w : World) (base : Nat) (F : List Nat) (p : Option Addr) (s : RD) (h : Srd w base F p s) (hB : base <= w.heap.size) :
  Calls Tryz.prog 122 #[.pointer p] w fun e w' => e = .returned (.bool s.flag) /\ Srto w base F p s.flagTo w' := by
 have hby := RD.byte_lt h.good
 have hfl : ((s.byte : Int) == 1) = s.flag := by unfold RD.flag; rw [Bool.eq_iff_iff, beq_iff_eq, beq_iff_eq]; omega
 by_cases h1 : 1 < s.byte
 ·have hd : decide (1 < (s.byte : Int)) = true := by simp; omega
  have hto : s.flagTo = RD.spoilt := by unfold RD.flagTo; rw [if_pos h1]
  rw [hto]
  go_enter Tryz.func122, Tryz.ntmps122
  go_wp2_with fail
  refine (x89 w base F p s h hB).mono ?_
  rintro e w1 ⟨rfl, F1, r1, o1, f1⟩
  go_wp2_with fail
  refine (x4P w1 base F1 p _ r1).mono ?_
  rintro e w2 ⟨rfl, r2⟩
  go_wp2
  go_ret
  exact ⟨rfl, r2.after o1 f1⟩
 ·have hd : decide (1 < (s.byte : Int)) = false := by simp; omega
  have hto : s.flagTo = s.take 1 := by unfold RD.flagTo; rw [if_neg h1]
  rw [hto]
  go_enter Tryz.func122, Tryz.ntmps122
  go_wp2_with fail
  refine (x89 w base F p s h hB).mono ?_
  rintro e w1 ⟨rfl, r1⟩
  go_wp2
  go_ret
  exact ⟨rfl, r1⟩
theorem x14 (s : RD) : -9223372036854775808 <= s.num /\ s.num <= 9223372036854775807 := x82 _
theorem x7C (w : World) (base : Nat) (F : List Nat) (p : Option Addr) (s : RD) (h : Srd w base F p s) (hB : base <= w.heap.size) (hs : s.bs.length <= 9000000) :
  Calls Tryz.prog 187 #[.pointer p] w fun e w' => ∃ v F', e = .returned v /\ Own w' w.heap.size v s.bytes.length s.bytes /\ Srd w' base F' p s.bytesTo /\ Only (heads p) w w' /\ (∀ k ∈ F', k ∈ F) /\ (∀ b ∈ s.bytes, b < 256) /\ (∀ k, v.ownBlock = some k -> k ∉ F') := by
 have hgot : s.bytes.length <= 10000000 := by have := RD.got_le (s.take 8) s.num; have := RD.take_le s 8; unfold RD.bytes; omega
 have hlt := RD.got_lt (RD.take_good h.good 8) s.num
 have hFu := h.under
 go_enter Tryz.func187, Tryz.ntmps187
 go_wp2_with fail
 refine (x1P w base F p s h hB).mono ?_
 rintro e w1 ⟨rfl, F1, r1, o1, f1⟩
 go_wp2_with fail
 refine (x3O w1 base F1 p (s.take 8) s.num r1 (x14 s).1 (x14 s).2).mono ?_
 rintro e w2 ⟨A, c, rfl, r2, ⟨B, hb⟩, -, -⟩
 go_wp2_with fail
 refine (x0P A _ c s.bytes w2 B hgot hb).mono ?_
 rintro e w3 ⟨v, rfl, h3, b3⟩
 go_wp2
 go_ret
 have R2 := r2.after o1 f1
 obtain ⟨F3, q1, q2, q3⟩ := R2
 have hq2 : Only (heads p) w w2 := q2
 refine ⟨v, F3, rfl, h3.weaken q2.size, q1.below b3, q2.trans (Only.of_below b3 _) (Fresh.refl _ _), q3, hlt, fun k hk hm => ?_⟩
 have h4 := (World.ownsRow.lt h3 k hk).1
 have h5 := q1.under k hm
 omega
theorem x7Z (w : World) (base : Nat) (F : List Nat) (p : Option Addr) (s : RD) (h : Srd w base F p s) (hB : base <= w.heap.size) :
  Calls Tryz.prog 186 #[.pointer p] w fun e w' => e = .returned (.string (strOf s.bytes)) /\ Srto w base F p s.bytesTo w' := by
 go_enter Tryz.func186, Tryz.ntmps186
 go_wp2_with fail
 refine (x1P w base F p s h hB).mono ?_
 rintro e w1 ⟨rfl, F1, r1, o1, f1⟩
 go_wp2_with fail
 refine (x3O w1 base F1 p (s.take 8) s.num r1 (x14 s).1 (x14 s).2).mono ?_
 rintro e w2 ⟨A, c, rfl, r2, ⟨B, hb⟩, -, -⟩
 have hcv := x6S (P := Tryz.prog) hb c 35 9 5 Tryz.underlying35 Tryz.underlying5 Tryz.underlying9
 go_wp2
 go_ret
 exact ⟨rfl, r2.after o1 f1⟩
theorem xHM (A : Option Addr) (n c : Nat) (bs : List Nat) (w : World) (B : Nat) (hn : n <= 9000000) (hb : Bytes w B A n bs) :
  Calls Tryz.prog 120 #[.slice A n c] w fun e w' => ∃ g F, e = .returned (.pointer (some ⟨g, 0, none⟩)) /\ Srd w' w.heap.size F (some ⟨g, 0, none⟩) ⟨bs, false⟩ /\ Below w.heap.size w w' := by
 go_enter Tryz.func120, Tryz.ntmps120
 go_wp2_with fail
 refine (x0P A n c bs w B (by omega) hb).mono ?_
 rintro e w1 ⟨v, rfl, h1, b1⟩
 obtain ⟨A1, c1, rfl, hc1, hc2, hA1⟩ := h1.form
 go_wp2
 go_ret
 have hl := hb.len
 subst hl
 refine ⟨w1.heap.size, w1.heap.size :: (A1.map Addr.block).toList, rfl, .inr ⟨_, rfl, A1, c1, rfl, Blk.new _ _ _, ?_, hc1, hc2, b1.size, fun a ha => ?_, ⟨fun e => (by cases e), hb.2⟩⟩, b1.alloc b1.size _⟩
 ·exact ((h1.bytes hb.2).since (x0D _ _)).more (by simp)
 ·rcases hA1 with ⟨rfl, -⟩ | ⟨g, rfl, hg1, hg2⟩
  ·cases ha
  ·injection ha with ha
   subst ha
   exact ⟨hg1, Nat.lt_of_lt_of_le hg2 (by simp), Nat.ne_of_lt hg2⟩
end
section
open Go.RowKit Go.BigFrame
def tkA : Nat -> RD -> AL -> Option (AL × RD)
 | 0, s, a => some (a, s)
 | k + 1, s, a => if isNameB s.bytes = true /\ s.bytesTo.bytes.length <= 1024 then tkA k s.bytesTo.bytesTo (gput (keyB s.bytes) s.bytesTo.bytes a) else none
def freeB (fl : List Bool) (x y : Int) : Bool := decide (1 <= y) && decide (0 <= x) && decide (x.toNat + y.toNat <= fl.length) && ((fl.drop x.toNat).take y.toNat).all id
def tkE : Nat -> RD -> List Bool -> List (Nat × Nat) -> Option (List (Nat × Nat) × List Bool × RD)
 | 0, s, fl, es => some (es, fl, s)
 | k + 1, s, fl, es => if freeB fl s.num (s.take 8).num = true then tkE k ((s.take 8).take 8) (setR fl s.num.toNat (s.take 8).num.toNat false) (es ++ [(s.num.toNat, (s.take 8).num.toNat)]) else none
def tkO (s : RD) (M : Mod) : Option (Mod × RD) :=
 if isNameB s.bytes = true /\ s.bytesTo.bytes.length <= 65536 then
  (tkA s.bytesTo.bytesTo.num.toNat (s.bytesTo.bytesTo.take 8) []).bind fun q =>
   (tkE q.2.num.toNat (q.2.take 8) M.fl []).bind fun t =>
    if lens t.1 = needsB s.bytesTo.bytes then some (⟨M.bl, t.2.1, gput (keyB s.bytes) ⟨s.bytesTo.bytes, q.1, t.1⟩ M.ob⟩, t.2.2) else none
 else none
theorem x42 {α β : Type} {x : Option α} {f : α -> Option β} {a : α} {r : Option β} (h1 : x = some a) (h2 : f a = r) : x.bind f = r := by
 subst h1
 exact h2
theorem xFU {α β : Type} {x : Option α} {f : α -> Option β} (h1 : x = none) : x.bind f = none := by
 subst h1
 rfl
theorem x8Y {α : Type} {c : Prop} [Decidable c] {x : Option α} (h : x = none) : (if c then x else none) = none := by
 subst h
 split <;> rfl
def tkN : Nat -> RD -> Mod -> Option (Mod × RD)
 | 0, s, M => some (M, s)
 | k + 1, s, M =>
  match tkO s M with
  | none => none
  | some (M', s') => tkN k s' M'
def flS (s : RD) : Nat -> RD × List Bool
 | 0 => (s, flags8)
 | k + 1 => ((flS s k).1.flagTo, (flS s k).2.set k (flS s k).1.flag)
def tkP (bs : List Nat) : Option Mod :=
 if 0 <= (⟨bs, false⟩ : RD).num /\ (⟨bs, false⟩ : RD).num <= 65536 then
  (tkN (flS ((⟨bs, false⟩ : RD).take 8) 8).1.num.toNat ((flS ((⟨bs, false⟩ : RD).take 8) 8).1.take 8) ⟨(flS ((⟨bs, false⟩ : RD).take 8) 8).2, List.replicate (⟨bs, false⟩ : RD).num.toNat true, []⟩).map (·.1)
 else none
theorem xDU {bs : List Nat} {M : Mod} {s' : RD} (h1 : 0 <= (⟨bs, false⟩ : RD).num /\ (⟨bs, false⟩ : RD).num <= 65536) (h : tkN (flS ((⟨bs, false⟩ : RD).take 8) 8).1.num.toNat ((flS ((⟨bs, false⟩ : RD).take 8) 8).1.take 8) ⟨(flS ((⟨bs, false⟩ : RD).take 8) 8).2, List.replicate (⟨bs, false⟩ : RD).num.toNat true, []⟩ = some (M, s')) : tkP bs = some M := by
 unfold tkP
 rw [if_pos h1, h]
 rfl
theorem xNH {bs : List Nat} (h : tkN (flS ((⟨bs, false⟩ : RD).take 8) 8).1.num.toNat ((flS ((⟨bs, false⟩ : RD).take 8) 8).1.take 8) ⟨(flS ((⟨bs, false⟩ : RD).take 8) 8).2, List.replicate (⟨bs, false⟩ : RD).num.toNat true, []⟩ = none) : tkP bs = none := by
 unfold tkP
 rw [h]
 split <;> rfl
theorem xMC {bs : List Nat} (h1 : ¬ (0 <= (⟨bs, false⟩ : RD).num /\ (⟨bs, false⟩ : RD).num <= 65536)) : tkP bs = none := by
 unfold tkP
 rw [if_neg h1]
theorem xDO {s s3 s4 : RD} {M : Mod} {a : AL} {e : List (Nat × Nat)} {fl : List Bool} (h1 : isNameB s.bytes = true /\ s.bytesTo.bytes.length <= 65536) (hA : tkA s.bytesTo.bytesTo.num.toNat (s.bytesTo.bytesTo.take 8) [] = some (a, s3)) (hE : tkE s3.num.toNat (s3.take 8) M.fl [] = some (e, fl, s4)) (hl : lens e = needsB s.bytesTo.bytes) : tkO s M = some (⟨M.bl, fl, gput (keyB s.bytes) ⟨s.bytesTo.bytes, a, e⟩ M.ob⟩, s4) :=
  (if_pos h1).trans (x42 hA (x42 hE (if_pos hl)))
theorem xCG {s : RD} {M : Mod} (h1 : ¬ (isNameB s.bytes = true /\ s.bytesTo.bytes.length <= 65536)) : tkO s M = none := if_neg h1
theorem xOS {s : RD} {M : Mod} (hA : tkA s.bytesTo.bytesTo.num.toNat (s.bytesTo.bytesTo.take 8) [] = none) : tkO s M = none :=
  x8Y (xFU hA)
theorem xOF {s s3 : RD} {M : Mod} {a : AL} (hA : tkA s.bytesTo.bytesTo.num.toNat (s.bytesTo.bytesTo.take 8) [] = some (a, s3)) (hE : tkE s3.num.toNat (s3.take 8) M.fl [] = none) : tkO s M = none :=
  x8Y (x42 hA (xFU hE))
theorem xOE {s s3 s4 : RD} {M : Mod} {a : AL} {e : List (Nat × Nat)} {fl : List Bool} (hA : tkA s.bytesTo.bytesTo.num.toNat (s.bytesTo.bytesTo.take 8) [] = some (a, s3)) (hE : tkE s3.num.toNat (s3.take 8) M.fl [] = some (e, fl, s4)) (hl : lens e ≠ needsB s.bytesTo.bytes) : tkO s M = none :=
  x8Y (x42 hA (x42 hE (if_neg hl)))
theorem xE0 {k : Nat} {s s' : RD} {M M' : Mod} (h : tkO s M = some (M', s')) : tkN (k + 1) s M = tkN k s' M' := by
  rw [tkN, h]
theorem xMF {k : Nat} {s : RD} {M : Mod} (h : tkO s M = none) : tkN (k + 1) s M = none := by
  rw [tkN, h]
theorem x4L {fl : List Bool} {x y : Int} : freeB fl x y = true ↔ ∃ a b : Nat, x = a /\ y = b /\ 1 <= b /\ AllR fl a b true := by
 unfold freeB
 simp only [Bool.and_eq_true, decide_eq_true_eq, List.all_eq_true, id]
 constructor
 ·rintro ⟨⟨⟨h1, h2⟩, h3⟩, h4⟩
  exact ⟨x.toNat, y.toNat, by omega, by omega, by omega, (x5S h3 true).1 h4⟩
 ·rintro ⟨a, b, rfl, rfl, h1, h2⟩
  refine ⟨⟨⟨by omega, by omega⟩, by simpa using h2.1⟩, ?_⟩
  simpa using (x5S h2.1 true).2 h2
theorem RD.got_used {s : RD} {n : Int} (h : 1 <= (s.got n).length) : s.bad = false /\ (s.take n).bs.length + (s.got n).length = s.bs.length := by
 unfold RD.got RD.take at *
 split at h
 ·rename_i hf
  simp only [hf, if_true, List.length_drop, List.length_take]
  simp only [RD.fits, Bool.and_eq_true, Bool.not_eq_true', decide_eq_true_eq] at hf
  refine ⟨hf.1.1, ?_⟩
  omega
 ·simp at h
theorem RD.take_ok {s : RD} {n : Int} (h : (s.take n).bad = false) : s.fits n = true := by
 unfold RD.take at h
 split at h
 ·assumption
 ·simp [RD.spoilt] at h
theorem RD.take8_used {s : RD} (h : (s.take 8).bad = false) : (s.take 8).bs.length + 8 = s.bs.length := by
 have hf := RD.take_ok h
 unfold RD.take
 simp only [hf, if_true, List.length_drop]
 simp only [RD.fits, Bool.and_eq_true, Bool.not_eq_true', decide_eq_true_eq] at hf
 omega
theorem RD.bytes_used {s : RD} (h : 1 <= s.bytes.length) : s.bytesTo.bs.length + 9 <= s.bs.length := by
 obtain ⟨h1, h2⟩ := RD.got_used h
 have h3 := RD.take8_used h1
 unfold RD.bytesTo
 unfold RD.bytes at h
 omega
theorem RD.bytesTo_le (s : RD) : s.bytesTo.bs.length <= s.bs.length := Nat.le_trans (RD.take_le _ _) (RD.take_le _ _)
theorem x8Q {bs : List Nat} (h : isNameB bs = true) : 1 <= bs.length /\ bs.length <= 32 := by
 simp only [isNameB, Bool.and_eq_true, decide_eq_true_eq] at h
 exact h.1
end
section
open Go.RowKit Go.BigFrame
def Readers (w : World) (G : List Nat) : Prop := ∀ k ∈ G, ∃ cs, Blk w k 259 cs
theorem Srd.readers {w : World} {base : Nat} {F : List Nat} {p : Option Addr} {s : RD} (h : Srd w base F p s) : Readers w (heads p) := fun k hk => by
 rcases h with ⟨rfl, _, _⟩ | ⟨g, rfl, A, c, rfl, h1, _⟩
 ·cases hk
 ·simp [heads] at hk
  subst hk
  exact ⟨_, h1⟩
theorem ObAt.rd {w w' : World} {G : List Nat} {go mb c ce : Nat} {D E : Option Addr} {kv : KV} {o : Ob} (h : ObAt w go mb c ce D E kv o) (ho : Only G w w') (hG : Readers w G) : ObAt w' go mb c ce D E kv o :=
 h.only ho (fun k hk _ => by
  obtain ⟨cs, hb⟩ := hG k hk
  exact ⟨Odd.blk hb (by decide), Odd.blk hb (by decide), Odd.blk hb (by decide)⟩) (fun hm => by
  obtain ⟨cs, hb⟩ := hG _ hm
  exact h.map.ne_blk hb rfl)
theorem StAt.rd {w w' : World} {G : List Nat} {gs ms gp r c : Nat} {A : Option Addr} {bl fl : List Bool} {kv : KV} (h : StAt w gs ms gp r c A bl fl kv) (ho : Only G w w') (hG : Readers w G) : StAt w' gs ms gp r c A bl fl kv := by
 have hn : ∀ {k : Nat} {t : TypeId} {cs : Array Value}, Blk w k t cs -> t ≠ 259 -> k ∉ G := fun {k t cs} hb ht hm => by
  obtain ⟨cs', hb'⟩ := hG k hm
  exact hb.ne_ hb' ht rfl
 refine ⟨h.blk.of (ho.block _ h.blk.lt (hn h.blk (by decide))), h.len, h.map.of (ho.block _ h.map.lt fun hm => ?_), ⟨h.sp.blk.of (ho.block _ h.sp.blk.lt (hn h.sp.blk (by decide))), h.sp.cap, h.sp.lim, ?_⟩, h.ne⟩
 ·obtain ⟨cs, hb⟩ := hG _ hm
  exact h.map.ne_blk hb rfl
 ·rcases h.sp.row with e | ⟨e, cs, hb, hc⟩
  ·exact .inl e
  ·exact .inr ⟨e, cs, hb.of (ho.block _ hb.lt (hn hb (by decide))), hc⟩
theorem ObAt.attr {w w' : World} {go mb c ce : Nat} {D E : Option Addr} {kv : KV} {o : Ob} (h : ObAt w go mb c ce D E kv o) {k : Key} {v : Value} {bs : List Nat} (hv : RowR w 0 [] v bs) (hm : SMap Tryz.prog 9 w' mb (aput k v kv)) (ho : Only [mb] w w') : ObAt w' go mb c ce D E (aput k v kv) {o with a := gput k bs o.a} := by
 have hod : ∀ (e : TypeId), ∀ k ∈ [mb], Odd w e k := fun e k hk => by simp at hk; subst hk; exact Odd.map h.map
 refine ⟨h.blk.of (ho.block _ h.blk.lt fun hk => by simp at hk; exact h.map.ne_blk h.blk hk.symm), x0N h.dat ho (hod _), h.ok, hm, ?_, x0N h.ext ho (hod _)⟩
 have hr : Rel2 (AttrR w' []) kv o.a := h.att.imp fun a b hr => ⟨hr.1, hr.2.only ho fun k hk => .inr (hod _ k hk)⟩
 exact hr.put AttrR.key ⟨rfl, hv.only ho fun k hk => .inr (hod _ k hk)⟩
def TkATo (w : World) (base g go mb c ce : Nat) (D E : Option Addr) (o : Ob) (F : List Nat) (s : RD) (e : Ending) (w' : World) : Prop :=
  Only [g, mb] w w' /\ ((tkA s.num.toNat (s.take 8) o.a = none /\ e = .returned (.bool false)) ∨ ∃ a' s' kv' F', tkA s.num.toNat (s.take 8) o.a = some (a', s') /\ e = .returned (.bool true) /\ ObAt w' go mb c ce D E kv' {o with a := a'} /\ Srd w' base F' (some ⟨g, 0, none⟩) s' /\ (∀ k ∈ F', k ∈ F) /\ s'.bs.length <= s.bs.length)
set_option maxHeartbeats 8000000 in
theorem xJ0 {w : World} {base g go mb c ce : Nat} {D E : Option Addr} {kv : KV} {o : Ob} {F : List Nat} {s : RD} (hO : ObAt w go mb c ce D E kv o) (hR : Srd w base F (some ⟨g, 0, none⟩) s) (hB : base <= w.heap.size) (hs : s.bs.length <= 1000000) (ha : o.a.length <= 9000000) (hmF : mb ∉ F) :
  Calls Tryz.prog 188 #[.pointer (some ⟨go, 0, none⟩), .pointer (some ⟨g, 0, none⟩)] w (TkATo w base g go mb c ce D E o F s) := by
 have HR := kH (x1P w base F (some ⟨g, 0, none⟩) s hR hB)
 have H0 := kH (kA hO (kA hR (kA hB (kA hs (kA ha hmF)))))
 obtain ⟨N, hN⟩ : ∃ N, N = s.num := ⟨_, rfl⟩
 have hNr := x14 s
 have HT := kH (kA hN (RD.take_le s 8))
 rw [<- hN] at HR hNr
 clear hO hR hs ha hmF hN
 go_enter Tryz.func188, Tryz.ntmps188
 go_wp2_with fail
 refine HR.out.mono ?_
 rintro e w1 ⟨rfl, F1, r1, o1, f1⟩
 have O1 := H0.out.1.rd o1 H0.out.2.1.readers
 have H1 := kH (kA o1 (kA f1 (kA r1 O1)))
 clear r1 o1 f1 O1 HR
 go_wp2_with fail
 go_loopw [9] (fun iv wr => ∃ (k : Nat) (a : AL) (sk : RD) (kvk : KV) (Fk : List Nat), iv = .int .i64 k /\ (k = 0 ∨ (k : Int) <= N) /\ tkA s.num.toNat (s.take 8) o.a = tkA (N.toNat - k) sk a /\ ObAt wr go mb c ce D E kvk {o with a := a} /\ Srd wr base Fk (some ⟨g, 0, none⟩) sk /\ (∀ k ∈ Fk, k ∈ F) /\ Only [g, mb] w wr /\ a.length + sk.bs.length <= 18000000 /\ sk.bs.length <= s.bs.length) (fun iv _ => N.toNat - (intS iv).toNat)
 case atStart => exact ⟨0, o.a, s.take 8, kv, F1, rfl, .inl rfl, by rw [HT.out.1]; rfl, H1.out.2.2.2, H1.out.2.2.1, H1.out.2.1, H1.out.1.mono (fun k hk => by simp [heads] at hk; simp [hk]), by have := HT.out.2; have := H0.out.2.2.2.2.1; have := H0.out.2.2.2.1; omega, HT.out.2⟩
 case round =>
  obtain ⟨k, a, sk, kvk, Fk, rfl, hk, htk, hOk, hRk, hFk, hon, hcnt, hle⟩ := hrel
  have hsz := hon.size
  have hBk : base <= wr.heap.size := Nat.le_trans H0.out.2.2.1 hsz
  by_cases hlt : (k : Int) < N
  -- {A
  ·have hdk : decide ((k : Int) < N) = true := decide_eq_true hlt
   have hwk : IntKind.i64.wrap ((k : Int) + 1) = (k : Int) + 1 := by rw [IntKind.wrap_i64]; omega
   obtain ⟨j, hj⟩ : ∃ j, N.toNat - k = j + 1 := ⟨N.toNat - k - 1, by omega⟩
   have hj2 : N.toNat - (k + 1) = j := by omega
   rw [hj, tkA] at htk
   have HX := kH (x7Z wr base Fk (some ⟨g, 0, none⟩) sk hRk hBk)
   have HK := kH (kA htk (kA hOk (kA hRk (kA hFk (kA hon (kA hcnt (kA hle (kA hj2 hBk))))))))
   have hnsm : ∀ b ∈ sk.bytes, b < 256 := RD.got_lt (RD.take_good hRk.good 8) _
   have hnl : sk.bytes.length <= 1000000 := by have := RD.got_le (sk.take 8) sk.num; have := RD.take_le sk 8; have := H0.out.2.2.2.1; unfold RD.bytes; omega
   have HNS := kH (kA hnsm hnl)
   clear htk hOk hRk hFk hon hcnt hle hj hj2 hnsm hnl hsz
   go_wp2_with fail
   refine HX.out.mono ?_
   rintro e w2 ⟨rfl, F2, r2, o2, f2⟩
   have hle2 := RD.bytesTo_le sk
   have HY := kH (x7C w2 base F2 (some ⟨g, 0, none⟩) sk.bytesTo r2 (Nat.le_trans HK.out.2.2.2.2.2.2.2.2 o2.size) (by have := HK.out.2.2.2.2.2.2.1; have := H0.out.2.2.2.1; omega))
   have H2 := kH (kA r2 (kA o2 f2))
   clear r2 o2 f2 HX
   go_wp2_with fail
   refine HY.out.mono ?_
   rintro e w3 ⟨v, F3, rfl, hov, r3, o3, f3, hvs, -⟩
   obtain ⟨A3, c3, rfl, -⟩ := hov.form
   have HN := kH (x3S sk.bytes HNS.out.1 HNS.out.2 w3)
   have H3 := kH (kA hov (kA r3 (kA o3 (kA f3 hvs))))
   clear hov r3 o3 f3 hvs HY
   go_wp2_with fail
   refine HN.out.mono ?_
   rintro e w4 ⟨rfl, hb4⟩
   have HB4 := kH hb4
   have hon4 : Only [g, mb] w w4 := by
    have e1 : Only [g, mb] wr w2 := H2.out.2.1.mono (fun k hk => by simp [heads] at hk; simp [hk])
    have e2 : Only [g, mb] w2 w3 := H3.out.2.2.1.mono (fun k hk => by simp [heads] at hk; simp [hk])
    exact ((HK.out.2.2.2.2.1.trans e1 (Fresh.refl _ _)).trans e2 (Fresh.refl _ _)).trans (Only.of_below hb4 _) (Fresh.refl _ _)
   have HO4 := kH hon4
   obtain ⟨m, hm⟩ : ∃ m, m = sk.bytesTo.bytes.length := ⟨_, rfl⟩
   have hm9 : m <= 9000000 := by
    have := RD.got_le (sk.bytesTo.take 8) sk.bytesTo.num
    have := RD.take_le sk.bytesTo 8
    have := HK.out.2.2.2.2.2.2.1
    have := H0.out.2.2.2.1
    have := RD.bytesTo_le sk
    rw [hm]
    unfold RD.bytes
    omega
   rw [<- hm]
   have HM := kH hm
   clear hb4 HN hon4 hm
   cases hnm : isNameB sk.bytes
   ·have hnone : tkA s.num.toNat (s.take 8) o.a = none := by rw [HK.out.1, hnm]; simp
    have HZ := kH hnone
    clear hnone hnm
    go_wp2
    go_ret
    exact ⟨HO4.out, .inl ⟨HZ.out, rfl⟩⟩
   ·by_cases hlen : m <= 1024
    ·have hd : decide ((1024 : Int) < (m : Int)) = false := decide_eq_false (by omega)
     have O4 : ObAt w4 go mb c ce D E kvk {o with a := a} := ((HK.out.2.1.rd H2.out.2.1 HK.out.2.2.1.readers).rd H3.out.2.2.1 H2.out.1.readers).below HB4.out
     have R4 := H3.out.2.1.below HB4.out
     have V4 : RowR w4 0 [] (.slice A3 m c3) sk.bytesTo.bytes := ⟨A3, c3, by rw [HM.out], by have := (H3.out.1.below HB4.out).weaken (Nat.zero_le _); rwa [<- HM.out] at this ⊢, H3.out.2.2.2.2, fun k hk hm => by cases hm⟩
     have c1 : w4.cell? ⟨go, 1, none⟩ = some (.map (some mb)) := O4.blk.cell 1
     have hkl : kvk.length = a.length := O4.att.len
     obtain ⟨w5, hrun, hm5, hg5, -⟩ := x25 (P := Tryz.prog) Tryz.underlying9 Tryz.underlying134 O4.map (keyB sk.bytes) (by have := HNS.out.2; simp [keyB, maxLen]; omega) (by have := HK.out.2.2.2.2.2.1; rw [hkl]; simp only [maxLen]; omega) (.slice A3 m c3)
     rw [x16] at hrun
     have ho5 : Only [mb] w4 w5 := (Only.refl _ _).grown hg5 (fun g hg => .inl (by injection hg with hg; simp [hg]))
     have O5 := O4.attr V4 hm5 ho5
     have hF3 : ∀ k ∈ F3, k ∈ F := fun k hk => HK.out.2.2.2.1 k (H2.out.2.2 k (H3.out.2.2.2.1 k hk))
     have R5 : Srd w5 base F3 (some ⟨g, 0, none⟩) sk.bytesTo.bytesTo := R4.of ho5.size (fun k hk => ho5.block k (R4.under k hk) (fun hm => by simp at hm; subst hm; exact H0.out.2.2.2.2.2 (hF3 _ hk)))
     have hu1 := RD.bytes_used (s := sk) (x8Q hnm).1
     have hu2 := RD.bytesTo_le sk.bytesTo
     have hfin : tkA s.num.toNat (s.take 8) o.a = tkA (N.toNat - (k + 1)) sk.bytesTo.bytesTo (gput (keyB sk.bytes) sk.bytesTo.bytes a) := by
      rw [HK.out.1, HK.out.2.2.2.2.2.2.2.1, if_pos ⟨hnm, by rw [<- HM.out]; exact hlen⟩]
     have hgl := x5Q (keyB sk.bytes) sk.bytesTo.bytes a
     have hc5 := HK.out.2.2.2.2.2.1
     have hc6 := HK.out.2.2.2.2.2.2.1
     have HFIN := kH (kA hfin (kA O5 (kA R5 (kA hF3 (kA (HO4.out.trans (ho5.mono (fun k hk => by simp at hk; simp [hk])) (Fresh.refl _ _)) (kA (show (gput (keyB sk.bytes) sk.bytesTo.bytes a).length + sk.bytesTo.bytesTo.bs.length <= 18000000 by omega) (show sk.bytesTo.bytesTo.bs.length <= s.bs.length by omega)))))))
     clear hfin O5 R5 hF3 ho5 hm5 hg5 V4 R4 O4 hkl hgl hu1 hu2 hc5 hc6 hnm
     go_wp2_with fail
     go_roundw
     case rel => exact ⟨k + 1, _, _, _, F3, by go_num, .inr (by omega), HFIN.out.1, HFIN.out.2.1, HFIN.out.2.2.1, HFIN.out.2.2.2.1, HFIN.out.2.2.2.2.1, HFIN.out.2.2.2.2.2.1, HFIN.out.2.2.2.2.2.2⟩
     case measure => simp [intS]; omega
    ·have hd : decide ((1024 : Int) < (m : Int)) = true := decide_eq_true (by omega)
     have hnone : tkA s.num.toNat (s.take 8) o.a = none := by rw [HK.out.1, if_neg (fun h => hlen (by rw [HM.out]; exact h.2))]
     have HZ := kH hnone
     clear hnone hnm
     go_wp2
     go_ret
     exact ⟨HO4.out, .inl ⟨HZ.out, rfl⟩⟩
  -- A}
  ·have hdk : decide ((k : Int) < N) = false := decide_eq_false hlt
   have hj : N.toNat - k = 0 := by omega
   rw [hj, tkA] at htk
   have HFIN := kH (show TkATo w base g go mb c ce D E o F s (.returned (.bool true)) wr from ⟨hon, .inr ⟨a, sk, kvk, Fk, htk, rfl, hOk, hRk, hFk, hle⟩⟩)
   clear htk hOk hRk hFk hon hcnt hle
   go_wp2
   go_ret
   exact HFIN.out
end
section
open Go.RowKit Go.BigFrame
theorem xEG {fl : List Bool} {e : Int × Int} {ns : List (Nat × Nat)} (h : TurnOk fl [e] false ns) : freeB fl e.1 e.2 = true /\ setA fl ns false = setR fl e.1.toNat e.2.toNat false := by
 obtain ⟨h1, h2, h3⟩ := h
 match ns, h1, h2, h3 with
 | [], h1, _, _ => simp [natE] at h1
 | [q], h1, h2, h3 =>
  simp only [natE, List.map_cons, List.map_nil, List.cons.injEq, and_true] at h1
  subst h1
  exact ⟨x4L.2 ⟨q.1, q.2, rfl, rfl, h2 q (by simp), h3.1⟩, rfl⟩
 | _ :: _ :: _, h1, _, _ => simp [natE] at h1
theorem xF9 {fl : List Bool} {e : Int × Int} (h : freeB fl e.1 e.2 = true) : ∃ ns, TurnOk fl [e] false ns := by
 obtain ⟨a, b, h1, h2, h3, h4⟩ := x4L.1 h
 refine ⟨[(a, b)], ?_, fun q hq => ?_, h4, trivial⟩
 ·simp [natE, <- h1, <- h2]
 ·simp at hq; subst hq; exact h3
theorem xGG {w : World} {g r c B : Nat} {A : Option Addr} {fl : List Bool} (x : Int × Int) (hI : InI x) (h : SAt w g r A c fl (cnt fl)) (hgr : g ≠ r) (E : Option Addr) (c' : Nat) (hc' : 1 <= c') (hR : ExtR w B E [x]) (hB : B <= w.heap.size)
    (hfar : ∀ ad, E = some ad -> ad.block ∉ foot g r fl) :
    Calls Tryz.prog 221 #[.pointer (some ⟨g, 0, none⟩), .slice E 1 c'] w fun e w' => Only (foot g r fl) w w' /\ ((freeB fl x.1 x.2 = true /\ e = .returned .nilIface /\ SAt w' g r A c (setR fl x.1.toNat x.2.toNat false) (cnt (setR fl x.1.toNat x.2.toNat false))) ∨ (freeB fl x.1 x.2 = false /\ e = .returned (errV 1) /\ SAt w' g r A c fl (cnt fl))) := by
  have post : ∀ (r' : Nat), (fl = [] ∨ r' = r) -> ∀ e w', TurnTo w g r' c A fl [x] false e w' -> Only (foot g r fl) w w' -> Only (foot g r fl) w w' /\ ((freeB fl x.1 x.2 = true /\ e = .returned .nilIface /\ SAt w' g r A c (setR fl x.1.toNat x.2.toNat false) (cnt (setR fl x.1.toNat x.2.toNat false))) ∨ (freeB fl x.1 x.2 = false /\ e = .returned (errV 1) /\ SAt w' g r A c fl (cnt fl))) := by
    rintro r' hr' e w' ⟨ho, ⟨ns, hns, rfl, hs⟩ | ⟨hno, rfl, hs⟩⟩ hof
    · obtain ⟨h1, h2⟩ := xEG hns
      have hlen := hns.2.2.len
      rw [h2] at hs hlen
      refine ⟨hof, .inl ⟨h1, rfl, ?_⟩⟩
      rcases hr' with e | e
      · exact hs.rest (List.eq_nil_of_length_eq_zero (by rw [hlen, e]; rfl))
      · subst e; exact hs
    · refine ⟨hof, .inr ⟨?_, rfl, ?_⟩⟩
      · cases hf : freeB fl x.1 x.2
        · rfl
        · obtain ⟨ns, h1⟩ := xF9 hf
          exact absurd h1 (hno ns)
      · rcases hr' with e | e
        · exact hs.rest e
        · subst e; exact hs
  have hI2 : ∀ e ∈ [x], InI e := fun e he => by simp at he; subst he; exact hI
  by_cases hf : fl = []
  · obtain ⟨eb, heb⟩ : ∃ eb, ∀ ad, E = some ad -> ad.block = eb := by
      cases E with
      | none => exact ⟨0, fun ad e => by cases e⟩
      | some a => exact ⟨a.block, fun ad e => by injection e with e; rw [e]⟩
    have := x93 (r := w.heap.size + g + eb + 1) [x] hI2 (h.rest hf) (by omega) E c' hc' hR hB (fun ad e => ⟨by have := hfar ad e; simp [foot, hf] at this; exact this, by have := heb ad e; omega⟩) (by simp)
    refine this.mono fun e w' ht => post _ (.inl hf) e w' ht ?_
    subst hf
    exact ⟨ht.1.os, ht.1.tape, ht.1.output, ht.1.size, fun i hi hn => ht.1.block i hi (by simp [foot] at hn ⊢; omega)⟩
  · have := x93 [x] hI2 h hgr E c' hc' hR hB (fun ad e => by have := hfar ad e; simp [foot, hf] at this; exact this) (by simp)
    exact this.mono fun e w' ht => post _ (.inr rfl) e w' ht (x3N hf ht.1)
theorem ObAt.more {w w' : World} {go mb c ce ce' : Nat} {D E E' : Option Addr} {kv : KV} {o : Ob} (h : ObAt w go mb c ce D E kv o) {es : List (Nat × Nat)} (hb : Blk w' go 137 (objC D o.d.length c (.map (some mb)) E' es.length ce')) (he : OwnE w' 0 (.slice E' es.length ce') (natE es)) (ho : Only (go :: rowOf (.slice E o.e.length ce)) w w') : ObAt w' go mb c ce' D E' kv {o with e := es} := by
 have hod : ∀ (e : TypeId), e ≠ 137 -> e ≠ 198 -> ∀ k ∈ go :: rowOf (.slice E o.e.length ce), Odd w e k := fun e h1 h2 k hk => by
  rcases List.mem_cons.1 hk with rfl | hk
  ·exact Odd.blk h.blk h1.symm
  ·obtain ⟨cs, hb⟩ := x0G h.ext (x00.1 hk)
   exact Odd.blk hb h2.symm
 refine ⟨hb, x0N h.dat ho (hod _ (by decide) (by decide)), h.ok, h.map.of (ho.block _ h.map.lt fun hm => ?_), h.att.imp fun a b hr => ⟨hr.1, hr.2.only ho fun k hk => .inr (hod _ (by decide) (by decide) k hk)⟩, he⟩
 rcases List.mem_cons.1 hm with e | hm
 ·exact h.map.ne_blk h.blk e
 ·obtain ⟨cs, hb⟩ := x0G h.ext (x00.1 hm)
  exact h.map.ne_blk hb rfl
theorem ObAt.foot {w w' : World} {gp r c0 : Nat} {A : Option Addr} {fl : List Bool} {left : Int} {go mb c ce : Nat} {D E : Option Addr} {kv : KV} {o : Ob} (h : ObAt w go mb c ce D E kv o) (hs : SAt w gp r A c0 fl left) (ho : Only (foot gp r fl) w w') : ObAt w' go mb c ce D E kv o :=
 h.only ho (fun k hk _ => ⟨hs.foot_odd (by decide) (by decide) hk, hs.foot_odd (by decide) (by decide) hk, hs.foot_odd (by decide) (by decide) hk⟩) (fun hm => by
  obtain ⟨t, cs, hb, _⟩ := hs.foot_typed hm
  exact h.map.ne_blk hb rfl)
theorem StAt.c9_of {w w' : World} {gs ms gp r c : Nat} {A : Option Addr} {bl fl : List Bool} {kv : KV} (h : StAt w gs ms gp r c A bl fl kv) (hb : Blk w' gs 122 (stC ms bl gp)) : w'.cell? ⟨gs, 9, none⟩ = some (.pointer (some ⟨gp, 0, none⟩)) := by
 have h9 := h.c9
 rw [h.blk.cell] at h9
 rw [hb.cell]
 exact h9
theorem StAt.typed {w w' : World} {G : List Nat} {gs ms gp r c : Nat} {A : Option Addr} {bl fl : List Bool} {kv : KV} (h : StAt w gs ms gp r c A bl fl kv) (ho : Only G w w') (hG : ∀ k ∈ G, ∃ t cs, Blk w k t cs /\ t ≠ 122 /\ t ≠ 190 /\ t ≠ 4) : StAt w' gs ms gp r c A bl fl kv := by
 refine ⟨h.blk.of (ho.block _ h.blk.lt fun hm => ?_), h.len, h.map.of (ho.block _ h.map.lt fun hm => ?_), ⟨h.sp.blk.of (ho.block _ h.sp.blk.lt fun hm => ?_), h.sp.cap, h.sp.lim, ?_⟩, h.ne⟩
 ·obtain ⟨t, cs, hb, h1, h2, h3⟩ := hG _ hm
  exact h.blk.ne_ hb h1.symm rfl
 ·obtain ⟨t, cs, hb, h1, h2, h3⟩ := hG _ hm
  exact h.map.ne_blk hb rfl
 ·obtain ⟨t, cs, hb, h1, h2, h3⟩ := hG _ hm
  exact h.sp.blk.ne_ hb h2.symm rfl
 ·rcases h.sp.row with e | ⟨e, cs, hb, hc⟩
  ·exact .inl e
  ·refine .inr ⟨e, cs, hb.of (ho.block _ hb.lt fun hm => ?_), hc⟩
   obtain ⟨t, cs', hb', h1, h2, h3⟩ := hG _ hm
   exact hb.ne_ hb' h3.symm rfl
def TkETo (w0 : World) (base g go mb c gs ms gp r c1 : Nat) (D A : Option Addr) (bl fl : List Bool) (kvs kv : KV) (o : Ob) (F : List Nat) (s : RD) (e : Ending) (w' : World) : Prop :=
  Only (g :: foot gp r fl) w0 w' /\ ((tkE s.num.toNat (s.take 8) fl [] = none /\ e = .returned (.bool false)) ∨ ∃ es fl' s' ce' E' F', tkE s.num.toNat (s.take 8) fl [] = some (es, fl', s') /\ e = .returned (.bool (decide (lens es = needsB o.d))) /\ StAt w' gs ms gp r c1 A bl fl' kvs /\ fl'.length = fl.length /\ ObAt w' go mb c ce' D E' kv {o with e := es} /\ Srd w' base F' (some ⟨g, 0, none⟩) s' /\ (∀ k ∈ F', k ∈ F) /\ s'.bs.length <= s.bs.length)
def TwoE (g1 g2 : Nat) (t : TypeId) (cs : Array Value) (x : Int × Int) (w : World) : Prop := Blk w g1 t cs /\ Blk w g2 198 #[.int .i64 x.1, .int .i64 x.2]
theorem xD1 {w : World} {g : Nat} {x : Int × Int} (h : Blk w g 198 #[.int .i64 x.1, .int .i64 x.2]) : (loadVar 198 ⟨g, 0, none⟩).run Tryz.prog w = .ok (.agg #[.int .i64 x.1, .int .i64 x.2]) w :=
  x4J w ⟨g, 0, none⟩ x (h.cell 0) (h.cell 1)
end
section
open Go.RowKit Go.BigFrame
theorem x64 {a : Act} {op : Oper} {x : Operand} {w : World} {g : Nat} {e : Int × Int} (ho : op.op = .load 198 x) (hx : a.eval x = .pointer (some ⟨g, 0, none⟩)) (h : Blk w g 198 #[.int .i64 e.1, .int .i64 e.2]) : (execOp a.eval op).run Tryz.prog w = .ok (.value (.agg #[.int .i64 e.1, .int .i64 e.2])) w := by
 have hl := xD1 h
 unfold execOp
 simp only [ho, hx, Instr.loadAt, Instr.sureAddr, Sem.run_bind, Sem.run_pure, Result.andThen_ok, hl]
theorem xO7 {fl : List Bool} {a b : Nat} (h : AllR fl a b true) : cnt (setR fl a b false) + b = cnt fl /\ (setR fl a b false).length = fl.length := by
 have h1 := OkA.cnt (es := [(a, b)]) (b := false) (l := fl) ⟨h, trivial⟩
 have e : setA fl [(a, b)] false = setR fl a b false := rfl
 rw [e] at h1
 simp [lens] at h1
 exact ⟨by omega, x0T h.1 false⟩
theorem x6E {gp r : Nat} {fl fl' : List Bool} (h : fl'.length = fl.length) : foot gp r fl' = foot gp r fl := by
 unfold foot
 by_cases hf : fl = []
 ·have : fl' = [] := List.eq_nil_of_length_eq_zero (by rw [h, hf]; rfl)
  rw [if_pos hf, if_pos this]
 ·have : fl' ≠ [] := fun e => hf (List.eq_nil_of_length_eq_zero (by rw [<- h, e]; rfl))
  rw [if_neg hf, if_neg this]
set_option maxHeartbeats 16000000 in
theorem xIA {w0 w : World} {base g go mb c gs ms gp r c1 : Nat} {D A : Option Addr} {bl fl : List Bool} {kvs kv : KV} {d : List Nat} {al : AL} {F : List Nat} {s : RD} (hst : StAt w gs ms gp r c1 A bl fl kvs) (hO : ObAt w go mb c 0 D none kv ⟨d, al, []⟩) (hR : Srd w base F (some ⟨g, 0, none⟩) s) (hB : base <= w0.heap.size) (hs : s.bs.length <= 1000000) (hd : d.length <= 65536)
    (hon : Only (g :: foot gp r fl) w0 w) (hgo : w0.heap.size <= go) (hmb : w0.heap.size <= mb) (hgs : gs < w0.heap.size) (hms : ms < w0.heap.size) (hfo : ∀ k ∈ foot gp r fl, k < w0.heap.size) (hF : ∀ k ∈ F, k ∉ foot gp r fl) (hFg : ∀ k ∈ F, k < w0.heap.size) :
    Calls Tryz.prog 189 #[.pointer (some ⟨gs, 0, none⟩), .pointer (some ⟨go, 0, none⟩), .pointer (some ⟨g, 0, none⟩)] w (TkETo w0 base g go mb c gs ms gp r c1 D A bl fl kvs kv ⟨d, al, []⟩ F s) := by
  have HR := kH (x1P w base F (some ⟨g, 0, none⟩) s hR (Nat.le_trans hB hon.size))
  have H0 := kH (kA hst (kA hO (kA hR (kA hB (kA hs hd)))))
  have HP := kH (kA hgo (kA hmb (kA hgs (kA hms (kA hfo (kA hF hFg))))))
  have HW := kH hon
  have hfl := hst.sp.lim
  obtain ⟨N, hN⟩ : ∃ N, N = s.num := ⟨_, rfl⟩
  have hNr := x14 s
  have HT := kH (kA hN (RD.take_le s 8))
  rw [<- hN] at HR hNr
  clear hst hO hR hs hon hgo hmb hgs hms hfo hF hFg hN
  go_enter Tryz.func189, Tryz.ntmps189
  go_wp2_with fail
  refine HR.out.mono ?_
  rintro e w1 ⟨rfl, F1, r1, o1, f1⟩
  have O1 := H0.out.2.1.rd o1 H0.out.2.2.1.readers
  have S1 := H0.out.1.rd o1 H0.out.2.2.1.readers
  have N1 : Only (g :: foot gp r fl) w0 w1 := HW.out.trans o1 (fun k hk => by simp [heads] at hk; simp [hk])
  have H1 := kH (kA f1 (kA r1 (kA O1 (kA S1 N1))))
  clear r1 o1 f1 O1 HR S1 N1
  go_wp2_with fail
  go_loopw [10] (fun iv wr => ∃ (k : Nat) (es : List (Nat × Nat)) (fk : List Bool) (sk : RD) (Fk : List Nat) (ce' : Nat) (E' : Option Addr), iv = .int .i64 k /\ (k = 0 ∨ (k : Int) <= N) /\ tkE s.num.toNat (s.take 8) fl [] = tkE (N.toNat - k) sk fk es /\ StAt wr gs ms gp r c1 A bl fk kvs /\ fk.length = fl.length /\ ObAt wr go mb c ce' D E' kv ⟨d, al, es⟩ /\ (∀ b ∈ rowOf (.slice E' es.length ce'), w0.heap.size <= b) /\ Srd wr base Fk (some ⟨g, 0, none⟩) sk /\ (∀ k ∈ Fk, k ∈ F) /\ Only (g :: foot gp r fl) w0 wr /\ lens es + cnt fk = cnt fl /\ (∀ e ∈ es, 1 <= e.2) /\ sk.bs.length <= s.bs.length) (fun iv _ => N.toNat - (intS iv).toNat)
  case atStart => exact ⟨0, [], fl, s.take 8, F1, 0, none, rfl, .inl rfl, by rw [HT.out.1]; rfl, H1.out.2.2.2.1, rfl, H1.out.2.2.1, (fun b hb => by simp [rowOf, Value.ownBlock] at hb), H1.out.2.1, H1.out.1, H1.out.2.2.2.2, by simp [lens], (fun e he => by cases he), HT.out.2⟩
  case round =>
    obtain ⟨k, es, fk, sk, Fk, ce', E', rfl, hk, htk, hSk, hfk, hOk, hEk, hRk, hFk, honk, hcnt, hpos, hle⟩ := hrel
    have hsz := honk.size
    by_cases hlt : (k : Int) < N
    -- {A
    · have hdk : decide ((k : Int) < N) = true := decide_eq_true hlt
      have hwk : IntKind.i64.wrap ((k : Int) + 1) = (k : Int) + 1 := by rw [IntKind.wrap_i64]; omega
      obtain ⟨j, hj⟩ : ∃ j, N.toNat - k = j + 1 := ⟨N.toNat - k - 1, by omega⟩
      have hj2 : N.toNat - (k + 1) = j := by omega
      rw [hj, tkE] at htk
      have hlt' := hlt
      clear hj
      have hwB : base <= wr.heap.size := Nat.le_trans H0.out.2.2.2.1 hsz
      have HX := kH (x1P wr base Fk (some ⟨g, 0, none⟩) sk hRk hwB)
      have HK := kH (kA htk (kA hSk (kA hfk (kA hOk (kA hEk (kA hRk (kA hFk (kA honk (kA hcnt (kA hpos (kA hle (kA hj2 hwB))))))))))))
      have hxr := x14 sk
      have hyr := x14 (sk.take 8)
      obtain ⟨x, hx⟩ : ∃ x, x = sk.num := ⟨_, rfl⟩
      obtain ⟨y, hy⟩ : ∃ y, y = (sk.take 8).num := ⟨_, rfl⟩
      have HXY := kH (kA hx hy)
      rw [<- hx] at HX hxr
      rw [<- hy] at hyr
      have hI : InI (x, y) := ⟨hxr, hyr⟩
      clear htk hSk hfk hOk hEk hRk hFk honk hcnt hpos hle hj2 hx
      go_wp2_with fail
      refine HX.out.mono ?_
      rintro e w2 ⟨rfl, F2, r2, o2, f2⟩
      have HY := kH (x1P w2 base F2 (some ⟨g, 0, none⟩) (sk.take 8) r2 (Nat.le_trans hwB o2.size))
      rw [<- hy] at HY
      have H2 := kH (kA r2 (kA o2 f2))
      clear r2 o2 f2 HX hy
      go_wp2_with fail
      refine HY.out.mono ?_
      rintro e w3 ⟨rfl, F3, r3, o3, f3⟩
      have H3 := kH (kA r3 (kA o3 f3))
      clear r3 o3 f3 HY
      go_upto_region 4 with (fail)
      obtain ⟨w4, hw4⟩ : ∃ w4, w4 = w3.alloc (.cells #[.int .i64 x, .int .i64 y] 198) := ⟨_, rfl⟩
      obtain ⟨ge, hge⟩ : ∃ ge, ge = w3.heap.size := ⟨_, rfl⟩
      have hb4 : Below w3.heap.size w3 w4 := by rw [hw4]; exact (Below.refl _ _).alloc (Nat.le_refl _) _
      have K4 : Blk w4 ge 198 #[.int .i64 x, .int .i64 y] := by rw [hw4, hge]; exact Blk.new _ _ _
      have hz2 := H2.out.2.1.size
      have hz3 := H3.out.2.1.size
      have S4 : StAt w4 gs ms gp r c1 A bl fk kvs := ((HK.out.2.1.rd H2.out.2.1 HK.out.2.2.2.2.2.1.readers).rd H3.out.2.1 H2.out.1.readers).below hb4
      have O4 : ObAt w4 go mb c ce' D E' kv ⟨d, al, es⟩ := ((HK.out.2.2.2.1.rd H2.out.2.1 HK.out.2.2.2.2.2.1.readers).rd H3.out.2.1 H2.out.1.readers).below hb4
      have R4 := H3.out.1.below hb4
      have N4 : Only (g :: foot gp r fl) w0 w4 := ((HK.out.2.2.2.2.2.2.2.1.trans H2.out.2.1 (fun k hk => by simp [heads] at hk; simp [hk])).trans H3.out.2.1 (fun k hk => by simp [heads] at hk; simp [hk])).trans (Only.of_below hb4 []) (fun k hk => by cases hk)
      have hgew : w0.heap.size <= ge := by omega
      have hge4 : ge < w4.heap.size := K4.lt
      have HGE : Hid (wr.heap.size <= ge) := kH (by omega)
      have H4 := kH (kA S4 (kA O4 (kA R4 (kA N4 (kA K4 (kA hgew hge4))))))
      rw [<- hw4, <- hge]
      clear hw4 hge hb4 hz2 hz3 R4 N4 hgew
      have HC : Hid (∀ w', TwoE gs ge 122 (stC ms bl gp) (x, y) w' -> w'.cell? ⟨gs, 9, none⟩ = some (.pointer (some ⟨gp, 0, none⟩))) := kH fun w' h => (show StAt w4 gs ms gp r c1 A bl fk kvs from S4).c9_of h.1
      have hS : TwoE gs ge 122 (stC ms bl gp) (x, y) w4.drew := ⟨S4.blk.drew, K4.drew⟩
      clear S4 O4 K4
      refine x09 (TwoE gs ge 122 (stC ms bl gp) (x, y)) 99 (by kernel_rfl) ?_
      refine tS (i := 0) (v := .pointer (some ⟨gs, 0, none⟩)) rfl rfl (by kernel_rfl) (by rfl) (fun w hw => by kernel_rfl) hS ?_
      simp only [Act.put, nB, nC, nD, nE, nF, nG]
      refine tS (i := 1) (v := .pointer (some ⟨gs, 0, none⟩)) rfl rfl (by kernel_rfl) (by rfl) (fun w hw => by kernel_rfl) hS ?_
      simp only [Act.put, nB, nC, nD, nE, nF, nG]
      refine tS (i := 2) (v := .pointer (some ⟨gs, 9, none⟩)) rfl rfl (by kernel_rfl) (by rfl) (fun w hw => by go_simp) hS ?_
      simp only [Act.put, nB, nC, nD, nE, nF, nG]
      refine tS (i := 3) (v := .pointer (some ⟨gp, 0, none⟩)) rfl rfl (by kernel_rfl) (by rfl) (fun w hw => by have q := HC.out w hw; go_simp) hS ?_
      simp only [Act.put, nB, nC, nD, nE, nF, nG]
      refine tS (i := 4) (v := .agg #[.int .i64 x, .int .i64 y]) rfl rfl (by kernel_rfl) (by rfl) (fun w hw => by exact x64 (e := (x, y)) rfl rfl hw.2) hS ?_
      simp only [Act.put, nB, nC, nD, nE, nF, nG]
      have hbx : (Instr.buildSlice 135 1 #[(0, .agg #[.int .i64 x, .int .i64 y])]).run Tryz.prog w4.drew = .ok (.slice (some ⟨w4.drew.heap.size, 0, none⟩) 1 1) (w4.drew.alloc (.cells #[.int .i64 x, .int .i64 y] 198)) := x2A (x, y) w4.drew
      refine x01 (j := 5) (by kernel_rfl) rfl (by rfl) ?_
      simp only [Act.put, nB, nC, nD, nE, nF, nG]
      refine x0B (v := .slice (some ⟨w4.drew.heap.size, 0, none⟩) 1 1) (w' := w4.drew.alloc (.cells #[.int .i64 x, .int .i64 y] 198)) (by go_simp) ⟨⟨hS.1.alloc _, hS.2.alloc _⟩, ?_⟩
      simp only [Act.put, nB, nC, nD, nE, nF, nG]
      have hb5 : Below w4.heap.size w4 (w4.drew.alloc (.cells #[.int .i64 x, .int .i64 y] 198)) := (x08 (Below.refl _ _) 1).alloc (Nat.le_refl _) _
      have hE5 : ExtR (w4.drew.alloc (.cells #[.int .i64 x, .int .i64 y] 198)) (w4.drew.heap.size + 1) (some ⟨w4.drew.heap.size, 0, none⟩) [(x, y)] := Reads.newN w4.drew (extS [(x, y)]) 1 2 198 (0, 0) rfl
      have S5 := H4.out.1.below hb5
      have HCL := kH (xGG (x, y) hI S5.sp S5.ne (some ⟨w4.drew.heap.size, 0, none⟩) 1 (Nat.le_refl _) hE5 (by simp) (fun ad e hm => by
        injection e with e
        subst e
        rw [x6E HK.out.2.2.1] at hm
        have h1 := HP.out.2.2.2.2.1 _ hm
        have h2 := H4.out.2.2.2.1.size
        have h3 : w4.drew.heap.size = w4.heap.size := rfl
        simp only at h1
        omega))
      obtain ⟨w5, hw5⟩ : ∃ w5, w5 = w4.drew.alloc (.cells #[.int .i64 x, .int .i64 y] 198) := ⟨_, rfl⟩
      rw [<- hw5] at hb5 S5 HCL hE5 ⊢
      refine x01 (j := 6) (by kernel_rfl) rfl (by rfl) ?_
      simp only [Act.put, nB, nC, nD, nE, nF, nG]
      refine x03 (by kernel_rfl) HCL.out ?_
      rintro e w6 ⟨ho6, hcase⟩
      have hgsf : gs ∉ foot gp r fk := fun hm => S5.sp.foot_odd (by decide) (by decide) hm _ S5.blk
      have hmsf : ms ∉ foot gp r fk := fun hm => by
        obtain ⟨t, cs, hb, _⟩ := S5.sp.foot_typed hm
        exact S5.map.ne_blk hb rfl
      have K5 : Blk w5 ge 198 #[.int .i64 x, .int .i64 y] := H4.out.2.2.2.2.1.of (hb5.block _ H4.out.2.2.2.2.1.lt)
      have hgef : ge ∉ foot gp r fk := fun hm => S5.sp.foot_odd (by decide) (by decide) hm _ K5
      have K6 := K5.of (ho6.block _ K5.lt hgef)
      have G6 := S5.blk.of (ho6.block _ S5.blk.lt hgsf)
      have hFk : ∀ b ∈ F3, b ∈ F := fun b hb => HK.out.2.2.2.2.2.2.1 b (H2.out.2.2 b (H3.out.2.2 b hb))
      have O6 : ObAt w6 go mb c ce' D E' kv ⟨d, al, es⟩ := (H4.out.2.1.below hb5).foot S5.sp ho6
      have R5 := H4.out.2.2.1.below hb5
      have R6 : Srd w6 base F3 (some ⟨g, 0, none⟩) ((sk.take 8).take 8) := R5.of ho6.size (fun b hb => ho6.block b (R5.under b hb) (fun hm => HP.out.2.2.2.2.2.1 b (hFk b hb) (by rw [<- x6E HK.out.2.2.1]; exact hm)))
      have N6 : Only (g :: foot gp r fl) w0 w6 := (H4.out.2.2.2.1.trans (Only.of_below hb5 []) (fun k hk => by cases hk)).trans ho6 (fun b hb => .inl (List.mem_cons_of_mem _ (by rw [<- x6E HK.out.2.2.1]; exact hb)))
      have hs56 := ho6.size
      have hs45 := hb5.size
      have H6 := kH (kA O6 (kA R6 (kA N6 (kA K6 (kA hFk G6)))))
      rcases hcase with ⟨hfr, rfl, hs6⟩ | ⟨hfr, rfl, hs6⟩
      -- {Y
      · have S6 : StAt w6 gs ms gp r c1 A bl (setR fk x.toNat y.toNat false) kvs := S5.turned ho6 hgsf hmsf hs6
        have HS6 := kH (kA S6 hfr)
        have hge6 : ge < w6.heap.size := K6.lt
        clear S6 O6 R6 N6 R5 hgsf hmsf K5 hgef hS HC hE5 hbx HCL S5 hb5 hw5 hs6 hfr ho6 hFk
        refine ⟨_, rfl, ⟨G6, K6⟩, ?_⟩
        simp only [Act.put, nB, nC, nD, nE, nF, nG]
        refine x01 (j := 7) (by kernel_rfl) rfl (by rfl) ?_
        simp only [Act.put, nB, nC, nD, nE, nF, nG]
        refine x0B (v := .bool false) (w' := w6) (by go_simp) ⟨⟨G6, K6⟩, ?_⟩
        simp only [Act.put, nB, nC, nD, nE, nF, nG]
        refine x0V (by kernel_rfl) ?_
        refine NoPanic.normal ?_
        clear G6 K6
        go_upto_region 6 with (fail)
        have HO : Hid (∀ w', TwoE go ge 137 (objC D d.length c (.map (some mb)) E' es.length ce') (x, y) w' -> w'.cell? ⟨go, 2, none⟩ = some (.slice E' es.length ce')) := kH fun w' h => h.1.cell 2
        have hS : TwoE go ge 137 (objC D d.length c (.map (some mb)) E' es.length ce') (x, y) w6.drew := ⟨H6.out.1.blk.drew, H6.out.2.2.2.1.drew⟩
        refine x09 (TwoE go ge 137 (objC D d.length c (.map (some mb)) E' es.length ce') (x, y)) 10 (by kernel_rfl) ?_
        refine tL (i := 0) (v := .pointer (some ⟨go, 0, none⟩)) rfl rfl (by kernel_rfl) (by rfl) (fun w hw => by kernel_rfl) hS ?_
        simp only [Act.put, nB, nC, nD, nE, nF, nG]
        refine tL (i := 1) (v := .pointer (some ⟨go, 0, none⟩)) rfl rfl (by kernel_rfl) (by rfl) (fun w hw => by kernel_rfl) hS ?_
        simp only [Act.put, nB, nC, nD, nE, nF, nG]
        refine tL (i := 2) (v := .pointer (some ⟨go, 0, none⟩)) rfl rfl (by kernel_rfl) (by rfl) (fun w hw => by kernel_rfl) hS ?_
        simp only [Act.put, nB, nC, nD, nE, nF, nG]
        refine tL (i := 3) (v := .pointer (some ⟨go, 2, none⟩)) rfl rfl (by kernel_rfl) (by rfl) (fun w hw => by go_simp) hS ?_
        simp only [Act.put, nB, nC, nD, nE, nF, nG]
        refine tL (i := 4) (v := .slice E' es.length ce') rfl rfl (by kernel_rfl) (by rfl) (fun w hw => by have q := HO.out w hw; go_simp) hS ?_
        simp only [Act.put, nB, nC, nD, nE, nF, nG]
        refine tL (i := 5) (v := .agg #[.int .i64 x, .int .i64 y]) rfl rfl (by kernel_rfl) (by rfl) (fun w hw => by exact x64 (e := (x, y)) rfl rfl hw.2) hS ?_
        simp only [Act.put, nB, nC, nD, nE, nF, nG]
        have hbx : (Instr.buildSlice 135 1 #[(0, .agg #[.int .i64 x, .int .i64 y])]).run Tryz.prog w6.drew = .ok (.slice (some ⟨w6.drew.heap.size, 0, none⟩) 1 1) (w6.drew.alloc (.cells #[.int .i64 x, .int .i64 y] 198)) := x2A (x, y) w6.drew
        refine x01 (j := 6) (by kernel_rfl) rfl (by rfl) ?_
        simp only [Act.put, nB, nC, nD, nE, nF, nG]
        refine x0B (v := .slice (some ⟨w6.drew.heap.size, 0, none⟩) 1 1) (w' := w6.drew.alloc (.cells #[.int .i64 x, .int .i64 y] 198)) (by go_simp) ⟨⟨hS.1.alloc _, hS.2.alloc _⟩, ?_⟩
        simp only [Act.put, nB, nC, nD, nE, nF, nG]
        have hb7 : Below w6.heap.size w6 (w6.drew.alloc (.cells #[.int .i64 x, .int .i64 y] 198)) := (x08 (Below.refl _ _) 1).alloc (Nat.le_refl _) _
        have hE7 : Reads (w6.drew.alloc (.cells #[.int .i64 x, .int .i64 y] 198)) (w6.drew.heap.size + 1) 2 (some ⟨w6.drew.heap.size, 0, none⟩) 1 (ext1 (x, y)) := Reads.newN w6.drew (ext1 (x, y)) 1 2 198 (0, 0) rfl
        have O7 := H6.out.1.below hb7
        have K7 := H6.out.2.2.2.1.of (hb7.block _ H6.out.2.2.2.1.lt)
        obtain ⟨i0, hi0, hz0, hz1, hz2⟩ := info_parts x36
        refine x01 (j := 7) (by kernel_rfl) rfl (by rfl) ?_
        simp only [Act.put, nB, nC, nD, nE, nF, nG]
        have hx7 := O7.ext
        have hcn := HK.out.2.2.2.2.2.2.2.2.1
        have hel := x28 HK.out.2.2.2.2.2.2.2.2.2.1
        have hcl := x6J fl
        have hes : es.length <= 65536 := by omega
        unfold OwnE at hx7
        rw [x0R] at hx7
        refine x18 _ (.tmp 29) (.tmp 31) 135 rfl 0 198 i0 _ 2 16 Tryz.underlying135 hi0 hz0 hz1 hz2 rfl (by omega) (.slice E' es.length ce') es.length _ rfl hx7 _ (some ⟨w6.drew.heap.size, 0, none⟩) 1 1 (ext1 (x, y)) rfl hE7 (by intro u hu; simp [ext1] at hu; rcases hu with rfl | rfl <;> rfl) (by simp only [maxLen]; omega) (by omega) (Nat.zero_le _) ?_
        intro v' w7 hown hgr hor
        have hTg : some go ≠ (Value.slice E' es.length ce').ownBlock := fun e => by
          obtain ⟨cs, hb⟩ := x0G hx7 e.symm
          exact O7.blk.ne_ hb (by decide) rfl
        have hTe : some ge ≠ (Value.slice E' es.length ce').ownBlock := fun e => by
          have h1 := x02 HK.out.2.2.2.1.ext ge (x00.2 e.symm)
          have h2 := HGE.out
          omega
        have G7 := O7.blk.grown hgr hTg
        have E7 := K7.grown hgr hTe
        refine ⟨⟨G7, E7⟩, ?_⟩
        simp only [Act.put, nB, nC, nD, nE, nF, nG]
        refine x01 (j := 8) (by kernel_rfl) rfl (by rfl) ?_
        simp only [Act.put, nB, nC, nD, nE, nF, nG]
        refine x0B (v := .pointer (some ⟨go, 0, none⟩)) (w' := w7) (by go_simp) ⟨⟨G7, E7⟩, ?_⟩
        simp only [Act.put, nB, nC, nD, nE, nF, nG]
        refine x01 (j := 9) (by kernel_rfl) rfl (by rfl) ?_
        simp only [Act.put, nB, nC, nD, nE, nF, nG]
        refine x0B (v := .pointer (some ⟨go, 2, none⟩)) (w' := w7) (by kernel_rfl) ⟨⟨G7, E7⟩, ?_⟩
        simp only [Act.put, nB, nC, nD, nE, nF, nG]
        obtain ⟨E2, ce2, rfl⟩ : ∃ E2 ce2, v' = .slice E2 (es.length + 1) ce2 := by
          rcases hown.2 with ⟨_, h0⟩ | ⟨g', cap', cur, e, _⟩
          · omega
          · exact ⟨_, _, e⟩
        refine x1V (by kernel_rfl) rfl (by rfl) (by kernel_rfl) ?_
        simp only [Act.put, nB, nC, nD, nE, nF, nG]
        refine x2L 135 (.tmp 34) (.tmp 32) (by rfl) go 2 137 _ (.slice E2 (es.length + 1) ce2) (by rfl) (by rfl) G7 (by simp [objC]) (by kernel_rfl) rfl ?_
        refine NoPanic.normal ?_
        obtain ⟨w8, hw8⟩ : ∃ w8, w8 = w7.setCell ⟨go, 2, none⟩ (.slice E2 (es.length + 1) ce2) := ⟨_, rfl⟩
        have hon7 : Only (go :: rowOf (.slice E' es.length ce')) w6 w7 := ((Only.of_below hb7 []).trans (F' := []) (Only.refl _ _) (Fresh.refl _ _) |>.mono (fun k hk => by cases hk)).grown hgr (fun b hg => .inl (by simp [x00, hg]))
        have hon78 : Only [go] w7 w8 := by rw [hw8]; exact (Only.refl _ _).setCell (.inl (by simp)) _
        have hon8 : Only (go :: rowOf (.slice E' es.length ce')) w6 w8 := hon7.trans hon78 (fun k hk => .inl (by simp at hk; simp [hk]))
        have G8 : Blk w8 go 137 (objC D d.length c (.map (some mb)) E2 (es ++ [(x.toNat, y.toNat)]).length ce2) := by
          rw [hw8, List.length_append]
          exact G7.set_ 2 _
        obtain ⟨a, b, hxa, hyb, hb1, hall⟩ := x4L.1 HS6.out.2
        have hxt : x.toNat = a := by omega
        have hyt : y.toNat = b := by omega
        have hone : natE (es ++ [(x.toNat, y.toNat)]) = natE es ++ [(x, y)] := by
          simp only [natE, List.map_append, List.map_cons, List.map_nil]
          rw [hxt, hyt, <- hxa, <- hyb]
        have hown8 : OwnE w8 0 (.slice E2 (es ++ [(x.toNat, y.toNat)]).length ce2) (natE (es ++ [(x.toNat, y.toNat)])) := by
          have h1 := x0N hown hon78 (fun k hk => by simp at hk; subst hk; exact Odd.blk G7 (by decide))
          unfold OwnE
          rw [hone, List.length_append, List.length_append, x0R, extS, List.flatMap_append, List.flatMap_cons, List.flatMap_nil, List.append_nil]
          exact h1
        have O8 := H6.out.1.more G8 hown8 hon8
        have hrow : ∀ b ∈ rowOf (.slice E' es.length ce'), w0.heap.size <= b := HK.out.2.2.2.2.1
        have hrow8 : ∀ b ∈ rowOf (.slice E2 (es ++ [(x.toNat, y.toNat)]).length ce2), w0.heap.size <= b := fun b hb => by
          rcases hor with h | h
          · refine hrow b (x00.2 ?_)
            rw [<- h, <- x00.1 hb]
            cases E2 <;> rfl
          · have h2 : (Value.slice E2 (es.length + 1) ce2).ownBlock = some b := by
              rw [<- x00.1 hb]
              cases E2 <;> rfl
            rw [h] at h2
            injection h2 with h2
            have h3 : w6.drew.heap.size = w6.heap.size := rfl
            have h4 := H6.out.2.2.1.size
            simp at h2
            omega
        have S8 : StAt w8 gs ms gp r c1 A bl (setR fk x.toNat y.toNat false) kvs := HS6.out.1.typed hon8 (fun k hk => by
          rcases List.mem_cons.1 hk with rfl | hk
          · exact ⟨_, _, H6.out.1.blk, by decide, by decide, by decide⟩
          · obtain ⟨cs, hb⟩ := x0G H6.out.1.ext (x00.1 hk)
            exact ⟨_, _, hb, by decide, by decide, by decide⟩)
        have R8 : Srd w8 base F3 (some ⟨g, 0, none⟩) ((sk.take 8).take 8) := H6.out.2.1.of hon8.size (fun b hb => hon8.block b (H6.out.2.1.under b hb) (fun hm => by
          have h1 := HP.out.2.2.2.2.2.2 b (H6.out.2.2.2.2.1 b hb)
          rcases List.mem_cons.1 hm with e | hm
          · have := HP.out.1; omega
          · have := hrow b hm; omega))
        have N8 : Only (g :: foot gp r fl) w0 w8 := H6.out.2.2.1.trans hon8 (fun k hk => by
          rcases List.mem_cons.1 hk with e | hk
          · exact .inr (by rw [e]; exact HP.out.1)
          · exact .inr (hrow k hk))
        rw [<- hxt, <- hyt] at hall
        obtain ⟨hc1, hc2⟩ := xO7 hall
        have hlens : lens (es ++ [(x.toNat, y.toNat)]) = lens es + y.toNat := by simp [lens]
        have htk8 : tkE s.num.toNat (s.take 8) fl [] = tkE (N.toNat - (k + 1)) ((sk.take 8).take 8) (setR fk x.toNat y.toNat false) (es ++ [(x.toNat, y.toNat)]) := by
          rw [HK.out.1, HK.out.2.2.2.2.2.2.2.2.2.2.2.1, <- HXY.out.1, <- HXY.out.2, if_pos HS6.out.2]
        have hle8 : ((sk.take 8).take 8).bs.length <= s.bs.length := by
          have h1 := RD.take_le sk 8
          have h2 := RD.take_le (sk.take 8) 8
          have h3 := HK.out.2.2.2.2.2.2.2.2.2.2.1
          omega
        have hcnt8 : lens (es ++ [(x.toNat, y.toNat)]) + cnt (setR fk x.toNat y.toNat false) = cnt fl := by rw [hlens]; omega
        have hpos8 : ∀ e ∈ es ++ [(x.toNat, y.toNat)], 1 <= e.2 := fun e he => by
          rcases List.mem_append.1 he with he | he
          · exact HK.out.2.2.2.2.2.2.2.2.2.1 e he
          · simp at he; subst he; simp only; omega
        have hflen : (setR fk x.toNat y.toNat false).length = fl.length := hc2.trans HK.out.2.2.1
        rw [<- hw8]
        have HFIN := kH (kA htk8 (kA S8 (kA hflen (kA O8 (kA hrow8 (kA R8 (kA H6.out.2.2.2.2.1 (kA N8 (kA hcnt8 (kA hpos8 hle8))))))))))
        clear htk8 S8 hflen O8 hrow8 R8 N8 hcnt8 hpos8 hle8 hlens hc1 hc2 hall hrow hown8 hone G8 hon8 hon78 hon7 hw8 hown hgr hor hTg hTe G7 E7 hx7 O7 K7 hE7 hb7 hbx hS HO hxa hyb hxt hyt hcn hel hcl
        go_wp2_with fail
        go_roundw
        case rel => exact ⟨k + 1, _, _, _, F3, ce2, E2, by go_num, .inr (by omega), HFIN.out⟩
        case measure => simp [intS]; omega
      -- Y}
      -- {Z
      · have hnone : tkE s.num.toNat (s.take 8) fl [] = none := by
          rw [HK.out.1, <- HXY.out.1, <- HXY.out.2, if_neg (by rw [hfr]; simp)]
        have HFIN := kH (show TkETo w0 base g go mb c gs ms gp r c1 D A bl fl kvs kv ⟨d, al, []⟩ F s (.returned (.bool false)) w6 from ⟨N6, .inl ⟨hnone, rfl⟩⟩)
        clear hnone O6 R6 N6 R5 hgsf hmsf K5 hgef hS HC hE5 hbx HCL S5 hb5 hw5 hs6 hfr ho6 hFk
        refine ⟨_, rfl, ⟨G6, K6⟩, ?_⟩
        simp only [Act.put, nB, nC, nD, nE, nF, nG]
        refine x01 (j := 7) (by kernel_rfl) rfl (by rfl) ?_
        simp only [Act.put, nB, nC, nD, nE, nF, nG]
        refine x0B (v := .bool true) (w' := w6) (by simp only [errV]; go_simp) ⟨⟨G6, K6⟩, ?_⟩
        simp only [Act.put, nB, nC, nD, nE, nF, nG]
        refine x0V (by kernel_rfl) ?_
        refine NoPanic.normal ?_
        clear G6 K6
        go_wp2
        go_ret
        exact HFIN.out
      -- Z}
    -- A}
    · have hdk : decide ((k : Int) < N) = false := decide_eq_false hlt
      have hj : N.toNat - k = 0 := by omega
      rw [hj, tkE] at htk
      have hel := x28 hpos
      have hcl := x6J fl
      have HHAS := kH (xBE (w := wr) (g := go) (B := wr.heap.size) (es := es) (hOk.blk.cell 2) (OwnE.ext (by rw [x0R]; exact hOk.ext)) (Nat.le_refl _) (by omega) (by omega))
      have HK := kH (kA htk (kA hSk (kA hfk (kA hOk (kA hRk (kA hFk (kA honk hle)))))))
      clear htk hSk hfk hOk hEk hRk hFk honk hcnt hpos hle hel hcl
      go_wp2_with fail
      refine HHAS.out.mono ?_
      rintro e w2 ⟨rfl, hb2⟩
      have O2 := HK.out.2.2.2.1.below hb2
      have HND := kH (xB7 (w := w2) (g := go) (O2.blk.cell 0) (by simp only; omega))
      have HFIN := kH (show TkETo w0 base g go mb c gs ms gp r c1 D A bl fl kvs kv ⟨d, al, []⟩ F s (.returned (.bool (decide (lens es = needsB d)))) w2 from ⟨HK.out.2.2.2.2.2.2.1.trans (Only.of_below hb2 []) (fun k hk => by cases hk), .inr ⟨es, fk, sk, ce', E', Fk, HK.out.1, rfl, HK.out.2.1.below hb2, HK.out.2.2.1, O2, HK.out.2.2.2.2.1.below hb2, HK.out.2.2.2.2.2.1, HK.out.2.2.2.2.2.2.2⟩⟩)
      clear O2 hb2 HHAS
      go_wp2_with fail
      refine HND.out.mono ?_
      rintro e w3 ⟨rfl, rfl⟩
      have hdec : ((lens es : Int) == ((d.length : Int) + 15) / 16) = decide (lens es = needsB d) := by
        unfold needsB
        rw [Bool.eq_iff_iff, beq_iff_eq, decide_eq_true_eq]
        omega
      go_wp2
      go_ret
      exact HFIN.out
end
section
open Go.RowKit Go.BigFrame
theorem StAt.off {w w' : World} {G : List Nat} {gs ms gp r c : Nat} {A : Option Addr} {bl fl : List Bool} {kv : KV} (h : StAt w gs ms gp r c A bl fl kv) (ho : Only G w w') (hG : ∀ k ∈ G, k ≠ gs /\ k ≠ ms /\ k ∉ foot gp r fl) : StAt w' gs ms gp r c A bl fl kv := by
 refine ⟨h.blk.of (ho.block _ h.blk.lt fun hm => (hG _ hm).1 rfl), h.len, h.map.of (ho.block _ h.map.lt fun hm => (hG _ hm).2.1 rfl), ⟨h.sp.blk.of (ho.block _ h.sp.blk.lt fun hm => (hG _ hm).2.2 (by unfold foot; split <;> simp)), h.sp.cap, h.sp.lim, ?_⟩, h.ne⟩
 rcases h.sp.row with e | ⟨e, cs, hb, hc⟩
 ·exact .inl e
 ·by_cases hf : fl = []
  ·exact .inl hf
  ·exact .inr ⟨e, cs, hb.of (ho.block _ hb.lt fun hm => (hG _ hm).2.2 (by unfold foot; rw [if_neg hf]; simp)), hc⟩
theorem xB4 {w w' : World} {Z G : List Nat} {kv : KV} {ob : List (Key × Ob)} (h : Rel2 (ObjR w Z) kv ob) (ho : Only G w w') (hG : ∀ k ∈ G, ∃ t cs, Blk w k t cs /\ t ≠ 137 /\ t ≠ 5 /\ t ≠ 198) : Rel2 (ObjR w' Z) kv ob :=
 h.imp fun a b hr => ⟨hr.1, by
  obtain ⟨go, mb, c1, ce, D, E, kv1, e, hmb, hat⟩ := hr.2
  refine ⟨go, mb, c1, ce, D, E, kv1, e, hmb, hat.only ho (fun k hk hl => ?_) (fun hm => ?_)⟩
  ·obtain ⟨t, cs, hb, h1, h2, h3⟩ := hG k hk
   exact ⟨Odd.blk hb h1, Odd.blk hb h2, Odd.blk hb h3⟩
  ·obtain ⟨t, cs, hb, _⟩ := hG _ hm
   exact hat.map.ne_blk hb rfl⟩
def TkOTo (w : World) (Z : List Nat) (base g gs ms gp r c1 : Nat) (A : Option Addr) (M : Mod) (F : List Nat) (s : RD) (e : Ending) (w' : World) : Prop :=
  Only (g :: ms :: foot gp r M.fl) w w' /\ ((tkO s M = none /\ e = .returned (.bool false)) ∨ ∃ M' s' kv' F', tkO s M = some (M', s') /\ e = .returned (.bool true) /\ StoreAt w' Z gs ms gp r c1 A M' kv' /\ Srd w' base F' (some ⟨g, 0, none⟩) s' /\ (∀ k ∈ F', k ∈ F) /\ M'.fl.length = M.fl.length /\ M'.ob.length <= M.ob.length + 1 /\ s'.bs.length + 9 <= s.bs.length)
set_option maxHeartbeats 16000000 in
theorem xJ7 {w : World} {Z : List Nat} {base g gs ms gp r c1 : Nat} {A : Option Addr} {M : Mod} {kvs : KV} {F : List Nat} {s : RD} (hS : StoreAt w Z gs ms gp r c1 A M kvs) (hZ : ms ∈ Z) (hZl : ∀ z ∈ Z, z < w.heap.size) (hR : Srd w base F (some ⟨g, 0, none⟩) s) (hB : base <= w.heap.size) (hs : s.bs.length <= 1000000) (hob : M.ob.length <= 1000000) (hF : ∀ k ∈ F, k ∉ ms :: foot gp r M.fl) :
  Calls Tryz.prog 123 #[.pointer (some ⟨gs, 0, none⟩), .pointer (some ⟨g, 0, none⟩)] w (TkOTo w Z base g gs ms gp r c1 A M F s) := by
 have hnsm : ∀ b ∈ s.bytes, b < 256 := RD.got_lt (RD.take_good hR.good 8) _
 have hnl : s.bytes.length <= 1000000 := by have := RD.got_le (s.take 8) s.num; have := RD.take_le s 8; unfold RD.bytes; omega
 have hdl : s.bytesTo.bytes.length <= 1000000 := by have := RD.got_le (s.bytesTo.take 8) s.bytesTo.num; have := RD.take_le s.bytesTo 8; have := RD.bytesTo_le s; unfold RD.bytes at *; omega
 have hgsl := hS.st.blk.lt
 have hmsl := hS.st.map.lt
 have hfol : ∀ k ∈ foot gp r M.fl, k < w.heap.size := fun k hk => hS.st.sp.foot_lt hk
 have hFl := hR.under
 have HX := kH (x7Z w base F (some ⟨g, 0, none⟩) s hR hB)
 have H0 := kH (kA hS (kA hR (kA hB (kA hs (kA hob hF)))))
 have HN0 := kH (kA hnsm (kA hnl hdl))
 have HL := kH (kA hgsl (kA hmsl (kA hfol hFl)))
 have hmm := @run_makeMap Tryz.prog
 have hbd : ∀ (D : Option Addr) (n c m : Nat) (w : World), (Instr.build 137 #[(0, .slice D n c), (1, .map (some m))]).run Tryz.prog w = .ok (.agg #[.slice D n c, .map (some m), .slice none 0 0]) w := fun D n c m w => by kernel_rfl
 have HZ := kH (kA hZ hZl)
 clear hS hR hs hob hF hnsm hnl hdl hgsl hmsl hfol hFl hZ hZl
 go_enter Tryz.func123, Tryz.ntmps123
 go_wp2_with fail
 refine HX.out.mono ?_
 rintro e w1 ⟨rfl, F1, r1, o1, f1⟩
 have HY := kH (x7C w1 base F1 (some ⟨g, 0, none⟩) s.bytesTo r1 (Nat.le_trans hB o1.size) (by have := H0.out.2.2.2.1; have := RD.bytesTo_le s; omega))
 have H1 := kH (kA r1 (kA o1 f1))
 clear r1 o1 f1 HX
 go_wp2_with fail
 refine HY.out.mono ?_
 rintro e w2 ⟨v, F2, rfl, hov, r2, o2, f2, hvs, -⟩
 obtain ⟨D, c, rfl, -⟩ := hov.form
 obtain ⟨d, hd⟩ : ∃ d, d = s.bytesTo.bytes := ⟨_, rfl⟩
 rw [<- hd] at hov hvs ⊢
 have hdl : d.length <= 1000000 := by rw [hd]; exact HN0.out.2.2
 have HD := kH hd
 have H2 := kH (kA hov (kA r2 (kA o2 (kA f2 hvs))))
 clear hov r2 o2 f2 hvs HY hd
 have m1 : SMap Tryz.prog 9 (w2.alloc (.map #[] 0)) w2.heap.size [] := SMap.new w2
 have s1 : (w2.alloc (.map #[] 0)).heap.size = w2.heap.size + 1 := World.size_alloc _ _
 have b1 : Below w2.heap.size w2 (w2.alloc (.map #[] 0)) := (Below.refl _ _).alloc (Nat.le_refl _) _
 have b2 : Below w2.heap.size w2 ((w2.alloc (.map #[] 0)).alloc (.cells #[.slice D d.length c, .map (some w2.heap.size), .slice none 0 0] 137)) := b1.alloc (by rw [s1]; omega) _
 have K3 := Blk.new (w2.alloc (.map #[] 0)) 137 #[.slice D d.length c, .map (some w2.heap.size), .slice none 0 0]
 have M3 : SMap Tryz.prog 9 ((w2.alloc (.map #[] 0)).alloc (.cells #[.slice D d.length c, .map (some w2.heap.size), .slice none 0 0] 137)) w2.heap.size [] := m1.of (Below.heap_alloc _ _ _ m1.lt)
 obtain ⟨w3, hw3⟩ : ∃ w3, w3 = (w2.alloc (.map #[] 0)).alloc (.cells #[.slice D d.length c, .map (some w2.heap.size), .slice none 0 0] 137) := ⟨_, rfl⟩
 rw [<- hw3] at b2 K3 M3
 rw [s1] at K3
 have O3 : ObAt w3 (w2.heap.size + 1) w2.heap.size c 0 D none [] ⟨d, [], []⟩ := ⟨K3, (H2.out.1.below b2).weaken (Nat.zero_le _), H2.out.2.2.2.2, M3, .nil, OwnE.nil _ _⟩
 have HW3 := kH hw3
 have HN := kH (x3S s.bytes HN0.out.1 HN0.out.2.1 w3)
 have H3 := kH (kA O3 b2)
 clear m1 b1 b2 K3 M3 O3 hw3
 go_wp2_with (first | rw [<- HW3.out])
 refine HN.out.mono ?_
 rintro e w4 ⟨rfl, b4⟩
 obtain ⟨mb, hmb⟩ : ∃ mb, mb = w2.heap.size := ⟨_, rfl⟩
 obtain ⟨go, hgo⟩ : ∃ go, go = w2.heap.size + 1 := ⟨_, rfl⟩
 have b24 : Below w2.heap.size w2 w4 := H3.out.2.trans (b4.mono H3.out.2.size)
 have O4 : ObAt w4 go mb c 0 D none [] ⟨d, [], []⟩ := by rw [hgo, hmb]; exact H3.out.1.below b4
 have R4 := H2.out.2.1.below b24
 have S4 : StAt w4 gs ms gp r c1 A M.bl M.fl kvs := ((H0.out.1.st.rd H1.out.2.1 H0.out.2.1.readers).rd H2.out.2.2.1 H1.out.1.readers).below b24
 have N4 : Only (g :: foot gp r M.fl) w w4 := ((H1.out.2.1.mono (fun k hk => by simp [heads] at hk; simp [hk])).trans H2.out.2.2.1 (fun k hk => by simp [heads] at hk; simp [hk])).trans (Only.of_below b24 []) (fun k hk => by cases hk)
 have hz1 := H1.out.2.1.size
 have hz2 := H2.out.2.2.1.size
 have hz4 := b24.size
 have hmbl : w.heap.size <= mb := by omega
 have hgol : w.heap.size <= go := by omega
 have hF2 : ∀ k ∈ F2, k ∈ F := fun k hk => H1.out.2.2 k (H2.out.2.2.2.1 k hk)
 have c0 : w4.cell? ⟨w2.heap.size + 1, 0, none⟩ = some (.slice D d.length c) := by rw [<- hgo]; exact O4.blk.cell 0
 have hmbF : mb ∉ F2 := fun hm => by have := HL.out.2.2.2 _ (hF2 _ hm); omega
 have hle2 : s.bytesTo.bytesTo.bs.length <= s.bs.length := Nat.le_trans (RD.bytesTo_le _) (RD.bytesTo_le _)
 have H4 := kH (kA O4 (kA R4 (kA S4 (kA N4 (kA hF2 hle2)))))
 have HG := kH (kA hmbl (kA hgol hmbF))
 have HBS : Hid (base <= w4.heap.size) := kH (by omega)
 rw [<- hgo] at c0 ⊢
 clear O4 R4 S4 N4 hF2 b24 b4 HN HW3 hmbF hle2 hz1 hz2 hz4 H3 hmm hbd
 clear hmb hgo
 have wide : ∀ w', Only (g :: foot gp r M.fl) w w' -> Only (g :: ms :: foot gp r M.fl) w w' := fun w' h => h.mono (fun k hk => by
  rcases List.mem_cons.1 hk with e | hk
  ·simp [e]
  ·exact List.mem_cons_of_mem _ (List.mem_cons_of_mem _ hk))
 have HWD := kH wide
 clear wide
 cases hnm : isNameB s.bytes
 -- {N
 ·have hnone : tkO s M = none := xCG (fun h => by rw [hnm] at h; cases h.1)
  have HFIN := kH (show TkOTo w Z base g gs ms gp r c1 A M F s (.returned (.bool false)) w4 from ⟨HWD.out _ H4.out.2.2.2.1, .inl ⟨hnone, rfl⟩⟩)
  clear hnone hnm
  go_wp2
  go_ret
  exact HFIN.out
 -- N}
 ·by_cases hlen : d.length <= 65536
  ·have hd1 : decide ((65536 : Int) < (d.length : Int)) = false := decide_eq_false (by omega)
   have HA := kH (xJ0 H4.out.1 H4.out.2.1 HBS.out (by have := H4.out.2.2.2.2.2; have := H0.out.2.2.2.1; omega) (by simp) HG.out.2.2)
   have HNM := kH hnm
   clear hnm
   go_wp2_with fail
   refine HA.out.mono ?_
   rintro e w5 ⟨ho5, hcase⟩
   have N5 : Only (g :: foot gp r M.fl) w w5 := H4.out.2.2.2.1.trans ho5 (fun k hk => by
    simp at hk
    rcases hk with e | e
    ·exact .inl (by simp [e])
    ·exact .inr (by rw [e]; exact HG.out.1))
   rcases hcase with ⟨hn, rfl⟩ | ⟨a', s3, kv', F3, hA, rfl, O5, R5, f5, hl5⟩
   -- {A
   ·have hnone : tkO s M = none := xOS hn
    have HFIN := kH (show TkOTo w Z base g gs ms gp r c1 A M F s (.returned (.bool false)) w5 from ⟨HWD.out _ N5, .inl ⟨hnone, rfl⟩⟩)
    clear hnone hn N5 ho5 HA c0
    go_wp2
    go_ret
    exact HFIN.out
   -- A}
   ·have hgg : g < w.heap.size := H0.out.2.1.under g (H0.out.2.1.head g (by simp [heads]))
    have hgR : ∃ cs, Blk w4 g 259 cs := H4.out.2.1.readers g (by simp [heads])
    have S5 : StAt w5 gs ms gp r c1 A M.bl M.fl kvs := H4.out.2.2.1.off ho5 (fun k hk => by
     have h1 := HL.out
     simp at hk
     rcases hk with e | e
     ·subst e
      obtain ⟨cs, hb⟩ := hgR
      refine ⟨fun e => ?_, fun e => ?_, fun hm => ?_⟩
      ·subst e; exact hb.ne_ H4.out.2.2.1.blk (by decide) rfl
      ·subst e; exact H4.out.2.2.1.map.ne_blk hb rfl
      ·exact H4.out.2.2.1.sp.foot_odd (by decide) (by decide) hm _ hb
     ·subst e
      have h2 := HG.out.1
      exact ⟨by omega, by omega, fun hm => by have := h1.2.2.1 _ hm; omega⟩)
    have hF3 : ∀ k ∈ F3, k ∈ F := fun k hk => H4.out.2.2.2.2.1 k (f5 k hk)
    have HE := kH (xIA (w0 := w) S5 (show ObAt w5 go mb c 0 D none kv' ⟨d, a', []⟩ from O5) R5 hB (by have := H4.out.2.2.2.2.2; have := H0.out.2.2.2.1; omega) hlen N5 HG.out.2.1 HG.out.1 HL.out.1 HL.out.2.1 HL.out.2.2.1 (fun k hk hm => H0.out.2.2.2.2.2 k (hF3 k hk) (List.mem_cons_of_mem _ hm)) (fun k hk => HL.out.2.2.2 k (hF3 k hk)))
    have H5 := kH (kA hA (kA hF3 hl5))
    clear S5 O5 R5 f5 hl5 hA hF3 N5 ho5 HA c0 hgR
    go_wp2_with fail
    refine HE.out.mono ?_
    rintro e w6 ⟨N6, hcase⟩
    rcases hcase with ⟨hn, rfl⟩ | ⟨es, fl', s4, ce', E', F4, hE, rfl, S6, hfl6, O6, R6, f6, hl6⟩
    -- {E
    ·have hnone : tkO s M = none := xOF H5.out.1 hn
     have HFIN := kH (show TkOTo w Z base g gs ms gp r c1 A M F s (.returned (.bool false)) w6 from ⟨HWD.out _ N6, .inl ⟨hnone, rfl⟩⟩)
     clear hnone hn N6 HE
     go_wp2
     go_ret
     exact HFIN.out
    -- E}
    ·by_cases hll : lens es = needsB d
     -- {T
     ·have hd2 : decide (lens es = needsB d) = true := decide_eq_true hll
      have hT := xDO (M := M) ⟨HNM.out, by rw [<- HD.out]; exact hlen⟩ H5.out.1 hE (by rw [<- HD.out]; exact hll)
      rw [<- HD.out] at hT
      have hob6 : Rel2 (ObjR w6 Z) kvs M.ob := xB4 H0.out.1.obs N6 (fun k hk => by
       rcases List.mem_cons.1 hk with rfl | hk
       ·obtain ⟨cs, hb⟩ := H0.out.2.1.readers k (by simp [heads])
        exact ⟨_, _, hb, by decide, by decide, by decide⟩
       ·obtain ⟨t, cs, hb, rfl | rfl⟩ := H0.out.1.st.sp.foot_typed hk
        ·exact ⟨_, _, hb, by decide, by decide, by decide⟩
        ·exact ⟨_, _, hb, by decide, by decide, by decide⟩)
      have hkl : kvs.length = M.ob.length := H0.out.1.obs.len
      have hnl := HN0.out.2.1
      have hol := H0.out.2.2.2.2.1
      obtain ⟨w7, hrun, hm7, hg7, -⟩ := x25 (P := Tryz.prog) Tryz.underlying9 Tryz.underlying118 S6.map (keyB s.bytes) (by simp [keyB, maxLen]; omega) (by rw [hkl]; simp only [maxLen]; omega) (.pointer (some ⟨go, 0, none⟩))
      rw [x16] at hrun
      have ho7 : Only [ms] w6 w7 := (Only.refl _ _).grown hg7 (fun g hg => .inl (by injection hg with hg; simp [hg]))
      have hodM : ∀ (e : TypeId), ∀ k ∈ [ms], Odd w6 e k := fun e k hk => by simp at hk; subst hk; exact Odd.map S6.map
      have hmsb : ms ≠ mb := by have := HL.out.2.1; have := HG.out.1; omega
      have S7 : StAt w7 gs ms gp r c1 A M.bl fl' (aput (keyB s.bytes) (.pointer (some ⟨go, 0, none⟩)) kvs) := ⟨S6.blk.of (ho7.block _ S6.blk.lt (by simp; have := S6.map.ne_blk S6.blk; omega)), S6.len, hm7, S6.sp.of (ho7.block _ S6.sp.blk.lt (by simp; have := S6.map.ne_blk S6.sp.blk; omega)) (fun t cs hb => ho7.block _ hb.lt (by simp; have := S6.map.ne_blk hb; omega)), S6.ne⟩
      have O7 : ObAt w7 go mb c ce' D E' kv' ⟨d, a', es⟩ := O6.only ho7 (fun k hk _ => ⟨hodM _ k hk, hodM _ k hk, hodM _ k hk⟩) (by simp; omega)
      have hob7 : Rel2 (ObjR w7 Z) kvs M.ob := hob6.imp fun a b hr => ⟨hr.1, by
       obtain ⟨go', mb', c1', ce, D', E, kv1, e, hmb', hat⟩ := hr.2
       exact ⟨go', mb', c1', ce, D', E, kv1, e, hmb', hat.only ho7 (fun k hk _ => ⟨hodM _ k hk, hodM _ k hk, hodM _ k hk⟩) (fun hm => by simp at hm; subst hm; exact hmb' HZ.out.1)⟩⟩
      have hobN := hob7.put ObjR.key (k := keyB s.bytes) (v := .pointer (some ⟨go, 0, none⟩)) (u := ⟨d, a', es⟩) ⟨rfl, go, mb, c, ce', D, E', kv', rfl, fun hm => by have h1 := HZ.out.2 _ hm; have h2 := HG.out.1; omega, O7⟩
      have hF4 : ∀ k ∈ F4, k ∈ F := fun k hk => H5.out.2.1 k (f6 k hk)
      have R7 : Srd w7 base F4 (some ⟨g, 0, none⟩) s4 := R6.of ho7.size (fun k hk => ho7.block k (R6.under k hk) (fun hm => by
       simp at hm
       subst hm
       exact H0.out.2.2.2.2.2 _ (hF4 _ hk) (by simp)))
      have hu1 := RD.bytes_used (s := s) (x8Q HNM.out).1
      have hu2 := RD.bytesTo_le s.bytesTo
      have hu3 := H5.out.2.2
      have hgl := x5Q (keyB s.bytes) (⟨d, a', es⟩ : Ob) M.ob
      have hfin : TkOTo w Z base g gs ms gp r c1 A M F s (.returned (.bool true)) w7 := ⟨(HWD.out _ N6).trans ho7 (fun k hk => by simp at hk; simp [hk]), .inr ⟨_, s4, _, F4, hT, rfl, ⟨S7, hobN⟩, R7, hF4, hfl6, hgl, by omega⟩⟩
      have HFIN := kH hfin
      have q0 : w6.cell? ⟨gs, 0, none⟩ = some (.map (some ms)) := S6.c0
      clear hfin S7 O7 hob7 hobN hF4 R7 hu1 hu2 hu3 hgl hob6 hkl hnl hol hm7 hg7 ho7 hodM hmsb hT S6 hfl6 O6 R6 f6 hl6 hE N6 HE hll
      go_wp2
      go_ret
      exact HFIN.out
     -- T}
     -- {U
     ·have hd2 : decide (lens es = needsB d) = false := decide_eq_false hll
      have hnone : tkO s M = none := xOE H5.out.1 hE (by rw [<- HD.out]; exact hll)
      have HFIN := kH (show TkOTo w Z base g gs ms gp r c1 A M F s (.returned (.bool false)) w6 from ⟨HWD.out _ N6, .inl ⟨hnone, rfl⟩⟩)
      clear hnone N6 HE S6 hfl6 O6 R6 f6 hl6 hE hll
      go_wp2
      go_ret
      exact HFIN.out
     -- U}
  -- {L
  ·have hd1 : decide ((65536 : Int) < (d.length : Int)) = true := decide_eq_true (by omega)
   have hnone : tkO s M = none := xCG (fun h => hlen (by rw [HD.out]; exact h.2))
   have HFIN := kH (show TkOTo w Z base g gs ms gp r c1 A M F s (.returned (.bool false)) w4 from ⟨HWD.out _ H4.out.2.2.2.1, .inl ⟨hnone, rfl⟩⟩)
   clear hnone hnm
   go_wp2
   go_ret
   exact HFIN.out
  -- L}
end
section
open Go.Shelf Go.RowKit Go.Maps Go.Sort Go.Shelf
def Lay.keys77_ren : Go.Shelf.Ren := ⟨fun | 7 => 77 | 10 => 129 | n => n, fun | 23 => 118 | 26 => 9 | 3 => 147 | 28 => 151 | 0 => 0 | 27 => 150 | 33 => 129 | 4 => 4 | n => n, fun | n => n⟩
theorem Lay.keys77 : Go.Proofs.SlLaysZ.n7 Tryz.prog Lay.keys77_ren := {
 mixed := by kernel_rfl
 f7 := ⟨Tryz.f77.name, by decide, Tryz.func77.trans (congrArg some (by kernel_rfl))⟩
 f10 := ⟨Tryz.f129.name, by decide, Tryz.func129.trans (congrArg some (by kernel_rfl))⟩
 t0 := Tryz.underlying0
 a0 := Tryz.isAgg0
 z0 := Tryz.sizeOf0
 v0 := Tryz.zeroValue0
 t4 := Tryz.underlying4
 a4 := Tryz.isAgg4
 z4 := Tryz.sizeOf4
 v4 := Tryz.zeroValue4
 t23 := Tryz.underlying118
 a23 := Tryz.isAgg118
 z23 := Tryz.sizeOf118
 v23 := Tryz.zeroValue118
 t26 := Tryz.underlying9
 a26 := Tryz.isAgg9
 z26 := Tryz.sizeOf9
 v26 := Tryz.zeroValue9
 t27 := Tryz.underlying150
 a27 := Tryz.isAgg150
 z27 := Tryz.sizeOf150
 v27 := Tryz.zeroValue150
 t28 := Tryz.underlying151
 a28 := Tryz.isAgg151
 z28 := Tryz.sizeOf151
 v28 := Tryz.zeroValue151
 t33 := Tryz.underlying129
 a33 := Tryz.isAgg129
 z33 := Tryz.sizeOf129
 v33 := Tryz.zeroValue129 }
def Lay.sorted76_ren : Go.Shelf.Ren := ⟨fun | 6 => 76 | 8 => 127 | 9 => 128 | 11 => 191 | 13 => 193 | 12 => 192 | 23 => 231 | 24 => 232 | 14 => 222 | 15 => 223 | 16 => 224 | 17 => 225 | 18 => 226 | 19 => 227 | 20 => 228 | 21 => 229 | 22 => 230 | 25 => 259 | 26 => 260 | 27 => 261 | 28 => 262 | 29 => 263 | 30 => 264 | 31 => 283 | n => n, fun | 26 => 9 | 28 => 151 | 24 => 58 | 0 => 0 | 3 => 3 | 37 => 268 | 48 => 303 | 50 => 305 | 4 => 4 | 40 => 296 | 39 => 295 | 45 => 300 | 5 => 5 | 9 => 9 | 51 => 332 | 55 => 336 | 57 => 357 | 58 => 308 | 33 => 129 | n => n, fun | n => n⟩
theorem Lay.sorted76 : Go.Proofs.SlLaysZ.n6 Tryz.prog Lay.sorted76_ren := {
 mixed := by kernel_rfl
 f6 := ⟨Tryz.f76.name, by decide, Tryz.func76.trans (congrArg some (by kernel_rfl))⟩
 f8 := ⟨Tryz.f127.name, by decide, Tryz.func127.trans (congrArg some (by kernel_rfl))⟩
 f11 := ⟨Tryz.f191.name, by decide, Tryz.func191.trans (congrArg some (by kernel_rfl))⟩
 t0 := Tryz.underlying0
 a0 := Tryz.isAgg0
 z0 := Tryz.sizeOf0
 v0 := Tryz.zeroValue0
 t24 := Tryz.underlying58
 a24 := Tryz.isAgg58
 z24 := Tryz.sizeOf58
 v24 := Tryz.zeroValue58
 t26 := Tryz.underlying9
 a26 := Tryz.isAgg9
 z26 := Tryz.sizeOf9
 v26 := Tryz.zeroValue9
 t28 := Tryz.underlying151
 a28 := Tryz.isAgg151
 z28 := Tryz.sizeOf151
 v28 := Tryz.zeroValue151
 i26 := by kernel_rfl }
def Lay.sort128_ren : Go.Shelf.Ren := ⟨fun | 6 => 128 | 8 => 193 | 9 => 192 | 19 => 231 | 20 => 232 | 21 => 222 | 22 => 223 | 23 => 224 | 24 => 225 | 25 => 226 | 26 => 227 | 27 => 228 | 28 => 229 | 29 => 230 | 36 => 259 | 31 => 260 | 32 => 261 | 37 => 262 | 38 => 263 | 39 => 264 | 41 => 283 | n => n, fun | 27 => 58 | 29 => 9 | 3 => 3 | 32 => 268 | 26 => 58 | 0 => 0 | 44 => 303 | 46 => 305 | 4 => 4 | 36 => 296 | 35 => 295 | 41 => 300 | 5 => 5 | 9 => 9 | 53 => 332 | 57 => 336 | 63 => 357 | 64 => 308 | n => n, fun | n => n⟩
theorem Lay.sort128 : Go.Proofs.SlLaysM.n6 Tryz.prog Lay.sort128_ren := {
 mixed := by kernel_rfl
 f6 := ⟨Tryz.f128.name, by decide, Tryz.func128.trans (congrArg some (by kernel_rfl))⟩
 f8 := Tryz.func193.trans (congrArg some (by kernel_rfl))
 f9 := ⟨Tryz.f192.name, by decide, Tryz.func192.trans (congrArg some (by kernel_rfl))⟩
 f19 := Tryz.func231.trans (congrArg some (by kernel_rfl))
 f20 := Tryz.func232.trans (congrArg some (by kernel_rfl))
 f21 := ⟨Tryz.f222.name, by decide, Tryz.func222.trans (congrArg some (by kernel_rfl))⟩
 f22 := ⟨Tryz.f223.name, by decide, Tryz.func223.trans (congrArg some (by kernel_rfl))⟩
 f23 := ⟨Tryz.f224.name, by decide, Tryz.func224.trans (congrArg some (by kernel_rfl))⟩
 f24 := ⟨Tryz.f225.name, by decide, Tryz.func225.trans (congrArg some (by kernel_rfl))⟩
 f25 := ⟨Tryz.f226.name, by decide, Tryz.func226.trans (congrArg some (by kernel_rfl))⟩
 f26 := ⟨Tryz.f227.name, by decide, Tryz.func227.trans (congrArg some (by kernel_rfl))⟩
 f27 := ⟨Tryz.f228.name, by decide, Tryz.func228.trans (congrArg some (by kernel_rfl))⟩
 f28 := ⟨Tryz.f229.name, by decide, Tryz.func229.trans (congrArg some (by kernel_rfl))⟩
 f29 := ⟨Tryz.f230.name, by decide, Tryz.func230.trans (congrArg some (by kernel_rfl))⟩
 f31 := Tryz.func260.trans (congrArg some (by kernel_rfl))
 f32 := Tryz.func261.trans (congrArg some (by kernel_rfl))
 f36 := ⟨Tryz.f259.name, by decide, Tryz.func259.trans (congrArg some (by kernel_rfl))⟩
 f37 := ⟨Tryz.f262.name, by decide, Tryz.func262.trans (congrArg some (by kernel_rfl))⟩
 f38 := ⟨Tryz.f263.name, by decide, Tryz.func263.trans (congrArg some (by kernel_rfl))⟩
 f39 := ⟨Tryz.f264.name, by decide, Tryz.func264.trans (congrArg some (by kernel_rfl))⟩
 f41 := ⟨Tryz.f283.name, by decide, Tryz.func283.trans (congrArg some (by kernel_rfl))⟩
 t0 := Tryz.underlying0
 a0 := Tryz.isAgg0
 z0 := Tryz.sizeOf0
 v0 := Tryz.zeroValue0
 t3 := Tryz.underlying3
 a3 := Tryz.isAgg3
 z3 := Tryz.sizeOf3
 v3 := Tryz.zeroValue3
 t4 := Tryz.underlying4
 a4 := Tryz.isAgg4
 z4 := Tryz.sizeOf4
 v4 := Tryz.zeroValue4
 t5 := Tryz.underlying5
 a5 := Tryz.isAgg5
 z5 := Tryz.sizeOf5
 v5 := Tryz.zeroValue5
 t9 := Tryz.underlying9
 a9 := Tryz.isAgg9
 z9 := Tryz.sizeOf9
 v9 := Tryz.zeroValue9
 t26 := Tryz.underlying58
 a26 := Tryz.isAgg58
 z26 := Tryz.sizeOf58
 v26 := Tryz.zeroValue58
 t27 := Tryz.underlying58
 a27 := Tryz.isAgg58
 z27 := Tryz.sizeOf58
 v27 := Tryz.zeroValue58
 t29 := Tryz.underlying9
 a29 := Tryz.isAgg9
 z29 := Tryz.sizeOf9
 v29 := Tryz.zeroValue9
 t32 := Tryz.underlying268
 a32 := Tryz.isAgg268
 z32 := Tryz.sizeOf268
 v32 := Tryz.zeroValue268
 t35 := Tryz.underlying295
 a35 := Tryz.isAgg295
 z35 := Tryz.sizeOf295
 v35 := Tryz.zeroValue295
 t36 := Tryz.underlying296
 a36 := Tryz.isAgg296
 z36 := Tryz.sizeOf296
 v36 := Tryz.zeroValue296
 t41 := Tryz.underlying300
 a41 := Tryz.isAgg300
 z41 := Tryz.sizeOf300
 v41 := Tryz.zeroValue300
 t44 := Tryz.underlying303
 a44 := Tryz.isAgg303
 z44 := Tryz.sizeOf303
 v44 := Tryz.zeroValue303
 t46 := Tryz.underlying305
 a46 := Tryz.isAgg305
 z46 := Tryz.sizeOf305
 v46 := Tryz.zeroValue305
 t53 := Tryz.underlying332
 a53 := Tryz.isAgg332
 z53 := Tryz.sizeOf332
 v53 := Tryz.zeroValue332
 t57 := Tryz.underlying336
 a57 := Tryz.isAgg336
 z57 := Tryz.sizeOf336
 v57 := Tryz.zeroValue336
 t63 := Tryz.underlying357
 a63 := Tryz.isAgg357
 z63 := Tryz.sizeOf357
 v63 := Tryz.zeroValue357
 t64 := Tryz.underlying308
 a64 := Tryz.isAgg308
 z64 := Tryz.sizeOf308
 v64 := Tryz.zeroValue308 }
theorem Lay.sorts76 (m : Nat) : AnyZ.SortsIn Tryz.prog Lay.sorted76_ren Fence.wide m :=
  ⟨fun blk off cap ss W hH hblk hsz => callsIn_wide.2 (AnyM.slices_Sort_string Lay.sort128 blk off cap ss W hH hblk hsz),
   fun p cap W => callsIn_wide.2 (AnyM.slices_Sort_string_none Lay.sort128 p cap W)⟩
theorem Lay.maps_Keys_77 (mb : Option Nat) (W : World) : CallsIn Fence.wide 5 Tryz.prog 77 #[.map mb] W fun e w' => e = .returned (.func (.func 129) #[] #[.pointer (some ⟨W.heap.size, 0, none⟩)]) /\ w' = W.alloc (.cells #[.map mb] 118) :=
  AnyZ.keys_in Lay.keys77 Fence.wide 5 trivial rfl mb W
set_option maxHeartbeats 1000000 in
theorem Lay.slices_Sorted_keys_76_77 {H : Type} (b nn : Nat) (D0 : DataW H) (R : Value -> Option (DataW H × List MemPlace)) (w : World) (hown : w.ownsMap Tryz.prog 9 R b nn D0) (hmax : Maps.size D0 <= maxLen) (hbytes : Maps.size D0 * 16 <= 140737488355328) :
  CallsIn Fence.wide 5 Tryz.prog 76 #[.func (.func 129) #[] #[.pointer (some ⟨w.heap.size, 0, none⟩)]] (w.alloc (.cells #[.map (some b)] 118)) fun e w' => ∃ (v : Value) (ss : List (List UInt8)), e = .returned v /\ ss.Perm (strKeys D0) ∧
   w'.ownsRow (w.alloc (.cells #[.map (some b)] 118)).heap.size 9 1 v ss.length ((ss.mergeSort (fun x y => decide (x <= y))).map encStr) /\ (v = .slice none 0 0 ↔ ss = []) /\ Below (w.alloc (.cells #[.map (some b)] 118)).heap.size (w.alloc (.cells #[.map (some b)] 118)) w' := by
 have hbl := hown.lt
 have hseq : SeqGives Fence.wide 2 Tryz.prog 129 #[.pointer (some ⟨w.heap.size, 0, none⟩)] encStr (fun ss => ss.Perm (strKeys D0)) (Maps.size D0) (w.alloc (.cells #[.map (some b)] 118)) :=
  AnyZ.keys_gives (ρ := Lay.keys77_ren) { Lay.keys77 with } Fence.wide _ trivial rfl (by omega) w.heap.size b nn D0 _ (by simp) (by simp) (by
   obtain ⟨es, clock, hb, Ft, hs, hD⟩ := hown
   exact ⟨es, clock, (Below.heap_alloc _ _ b hbl).trans hb, Ft, hs, hD⟩)
 exact AnyZ.sorted_in Lay.sorted76 Fence.wide 5 trivial trivial trivial trivial rfl (by omega) (Lay.sorts76 _) (enters_of Tryz.func128 (by kernel_rfl) rfl) 129 #[.pointer (some ⟨w.heap.size, 0, none⟩)] trivial (enters_of Tryz.func129 (by kernel_rfl) rfl) _ _ hmax hbytes _ hseq
def Lay.keys154_ren : Go.Shelf.Ren := ⟨fun | 7 => 154 | 10 => 208 | n => n, fun | 23 => 134 | 26 => 9 | 3 => 35 | 28 => 151 | 0 => 0 | 27 => 150 | 33 => 129 | 4 => 4 | n => n, fun | n => n⟩
theorem Lay.keys154 : Go.Proofs.SlLaysZ.n7 Tryz.prog Lay.keys154_ren := {
 mixed := by kernel_rfl
 f7 := ⟨Tryz.f154.name, by decide, Tryz.func154.trans (congrArg some (by kernel_rfl))⟩
 f10 := ⟨Tryz.f208.name, by decide, Tryz.func208.trans (congrArg some (by kernel_rfl))⟩
 t0 := Tryz.underlying0
 a0 := Tryz.isAgg0
 z0 := Tryz.sizeOf0
 v0 := Tryz.zeroValue0
 t4 := Tryz.underlying4
 a4 := Tryz.isAgg4
 z4 := Tryz.sizeOf4
 v4 := Tryz.zeroValue4
 t23 := Tryz.underlying134
 a23 := Tryz.isAgg134
 z23 := Tryz.sizeOf134
 v23 := Tryz.zeroValue134
 t26 := Tryz.underlying9
 a26 := Tryz.isAgg9
 z26 := Tryz.sizeOf9
 v26 := Tryz.zeroValue9
 t27 := Tryz.underlying150
 a27 := Tryz.isAgg150
 z27 := Tryz.sizeOf150
 v27 := Tryz.zeroValue150
 t28 := Tryz.underlying151
 a28 := Tryz.isAgg151
 z28 := Tryz.sizeOf151
 v28 := Tryz.zeroValue151
 t33 := Tryz.underlying129
 a33 := Tryz.isAgg129
 z33 := Tryz.sizeOf129
 v33 := Tryz.zeroValue129 }
theorem Lay.maps_Keys_154 (mb : Option Nat) (W : World) : CallsIn Fence.wide 5 Tryz.prog 154 #[.map mb] W fun e w' => e = .returned (.func (.func 208) #[] #[.pointer (some ⟨W.heap.size, 0, none⟩)]) /\ w' = W.alloc (.cells #[.map mb] 134) :=
  AnyZ.keys_in Lay.keys154 Fence.wide 5 trivial rfl mb W
set_option maxHeartbeats 1000000 in
theorem Lay.slices_Sorted_keys_76_154 {H : Type} (b nn : Nat) (D0 : DataW H) (R : Value -> Option (DataW H × List MemPlace)) (w : World) (hown : w.ownsMap Tryz.prog 9 R b nn D0) (hmax : Maps.size D0 <= maxLen) (hbytes : Maps.size D0 * 16 <= 140737488355328) :
  CallsIn Fence.wide 5 Tryz.prog 76 #[.func (.func 208) #[] #[.pointer (some ⟨w.heap.size, 0, none⟩)]] (w.alloc (.cells #[.map (some b)] 134)) fun e w' => ∃ (v : Value) (ss : List (List UInt8)), e = .returned v /\ ss.Perm (strKeys D0) ∧
   w'.ownsRow (w.alloc (.cells #[.map (some b)] 134)).heap.size 9 1 v ss.length ((ss.mergeSort (fun x y => decide (x <= y))).map encStr) /\ (v = .slice none 0 0 ↔ ss = []) /\ Below (w.alloc (.cells #[.map (some b)] 134)).heap.size (w.alloc (.cells #[.map (some b)] 134)) w' := by
 have hbl := hown.lt
 have hseq : SeqGives Fence.wide 2 Tryz.prog 208 #[.pointer (some ⟨w.heap.size, 0, none⟩)] encStr (fun ss => ss.Perm (strKeys D0)) (Maps.size D0) (w.alloc (.cells #[.map (some b)] 134)) :=
  AnyZ.keys_gives (ρ := Lay.keys154_ren) { Lay.keys154 with } Fence.wide _ trivial rfl (by omega) w.heap.size b nn D0 _ (by simp) (by simp) (by
   obtain ⟨es, clock, hb, Ft, hs, hD⟩ := hown
   exact ⟨es, clock, (Below.heap_alloc _ _ b hbl).trans hb, Ft, hs, hD⟩)
 exact AnyZ.sorted_in Lay.sorted76 Fence.wide 5 trivial trivial trivial trivial rfl (by omega) (Lay.sorts76 _) (enters_of Tryz.func128 (by kernel_rfl) rfl) 208 #[.pointer (some ⟨w.heap.size, 0, none⟩)] trivial (enters_of Tryz.func208 (by kernel_rfl) rfl) _ _ hmax hbytes _ hseq
end
section
open Go.RowKit Go.BigFrame Go.Shelf Go.Sort Go.Maps
def noS : ByteArray := strOf []
theorem xMD : noS.size = 0 := rfl
theorem xKJ : noS.toList.isEmpty = true := by
 have : noS = ByteArray.empty := rfl
 rw [this]
 decide +kernel
theorem xHA (s : ByteArray) (w : World) : Calls Tryz.prog 131 #[.string s, .string noS] w fun e w' => e = .returned (.bool true) /\ w = w' := by
 have h0 := xMD
 have h1 := xKJ
 have hd : decide ((0 : Int) <= (s.size : Int)) = true := decide_eq_true (by omega)
 go_enter Tryz.func131, Tryz.ntmps131
 go_wp2
 go_ret
 exact ⟨rfl, rfl⟩
theorem xBP (s : ByteArray) (w : World) : Calls Tryz.prog 80 #[.string s, .string noS] w fun e w' => e = .returned (.bool true) /\ w = w' := by
 have hp := xHA s
 have HP := kH hp
 clear hp
 go_enter Tryz.func80, Tryz.ntmps80
 go_wp2_with fail
 refine (HP.out w).mono ?_
 rintro e w' ⟨rfl, rfl⟩
 go_wp2
 go_ret
 exact ⟨rfl, rfl⟩
def preV (g : Nat) : Value := .func (.func 79) #[] #[.pointer (some ⟨g, 0, none⟩)]
theorem xNW (s : ByteArray) {g : Nat} {w : World} (hg : w.cell? ⟨g, 0, none⟩ = some (.string noS)) : Calls Tryz.prog 79 #[.string s, .pointer (some ⟨g, 0, none⟩)] w fun e w' => e = .returned (.bool false) /\ w = w' := by
 have HP := kH (xBP s)
 go_enter Tryz.func79, Tryz.ntmps79
 go_wp2_with fail
 refine (HP.out w).mono ?_
 rintro e w' ⟨rfl, rfl⟩
 go_wp2
 go_ret
 exact ⟨rfl, rfl⟩
def NamR (w : World) (base : Nat) (v : Value) (ns : List Key) : Prop := w.ownsRow base 9 1 v ns.length (ns.map keyV)
theorem NamR.reads {w : World} {base c : Nat} {A : Option Addr} {ns : List Key} (h : NamR w base (.slice A ns.length c) ns) : Reads w w.heap.size 1 A ns.length (ns.map keyV) := Reads.of_own h
theorem NamR.form {w : World} {base : Nat} {v : Value} {ns : List Key} (h : NamR w base v ns) : ∃ A c, v = .slice A ns.length c /\ ns.length <= c /\ ∀ k ∈ rowOf v, base <= k := by
 rcases h.2 with ⟨e, h0⟩ | ⟨g, c, cur, e, hb, _, hx, _⟩
 ·exact ⟨none, 0, by rw [e, h0], by omega, fun k hk => by rw [e] at hk; simp [rowOf, Value.ownBlock] at hk⟩
 ·exact ⟨_, c, e, hx, fun k hk => by rw [e] at hk; simp [rowOf, Value.ownBlock] at hk; omega⟩
theorem NamR.below {w w' : World} {base : Nat} {v : Value} {ns : List Key} (h : NamR w base v ns) (hb : Below w.heap.size w w') : NamR w' base v ns := x05 h fun k hk => hb.block k (x02 h k hk)
theorem xIV {w : World} {B c g : Nat} {A : Option Addr} {ns : List Key} (h : Reads w B 1 A ns.length (ns.map keyV)) (hl : ns.length <= 1000000) (hg : w.cell? ⟨g, 0, none⟩ = some (.string noS)) :
  Calls Tryz.prog 130 #[.slice A ns.length c, preV g] w fun e w' => e = .returned (.int .i64 (-1)) /\ w = w' := by
 have HR := kH h
 have HG := kH hg
 clear h hg
 unfold preV
 go_enter Tryz.func130, Tryz.ntmps130
 go_wp2
 go_loopw [8] (fun i wr => ∃ k : Nat, k <= ns.length /\ i = .int .i64 k /\ wr = w) (fun i _ => ns.length - (intS i).toNat)
 case atStart => exact ⟨0, by omega, rfl, rfl⟩
 case round =>
  obtain ⟨k, hk, rfl, rfl⟩ := hrel
  by_cases hlt : k < ns.length
  ·obtain ⟨ad, u, rfl, hab, hu, hc⟩ := HR.out.at_ hlt
   obtain ⟨s, rfl⟩ : ∃ s, u = .string s := by
    simp only [List.getElem?_map] at hu
    cases hx : ns[k]? with
    | none => rw [hx] at hu; cases hu
    | some x => rw [hx] at hu; simp at hu; exact ⟨_, hu.symm⟩
   have HP := kH (xNW s HG.out)
   have hwk : IntKind.i64.wrap ((k : Int) + 1) = (k : Int) + 1 := by rw [IntKind.wrap_i64]; omega
   clear hu
   go_wp2_with fail
   refine HP.out.mono ?_
   rintro e w' ⟨rfl, rfl⟩
   go_wp2
   go_roundw
   case rel => exact ⟨k + 1, by omega, by go_num, trivial⟩
   case measure => simp [intS]; omega
  ·obtain rfl : k = ns.length := by omega
   go_wp2
   go_ret
   exact ⟨rfl, rfl⟩
theorem xGF {w : World} {B c g : Nat} {A : Option Addr} {ns : List Key} (h : Reads w B 1 A ns.length (ns.map keyV)) (hl : ns.length <= 1000000) (hg : w.cell? ⟨g, 0, none⟩ = some (.string noS)) :
  Calls Tryz.prog 78 #[.slice A ns.length c, preV g] w fun e w' => e = .returned (.slice A ns.length c) /\ w = w' := by
 have HI := kH (xIV (c := c) h hl hg)
 clear h hg
 unfold preV at HI ⊢
 go_enter Tryz.func78, Tryz.ntmps78
 go_wp2_with fail
 refine HI.out.mono ?_
 rintro e w' ⟨rfl, rfl⟩
 go_wp2
 go_ret
 exact ⟨rfl, rfl⟩
theorem x85 (l : KV) : strKeys (.map (l.map encKV)) = l.map (·.1) := by
 simp only [strKeys, List.map_map]
 congr 1
theorem x3C (l : KV) : Maps.size (DataW.map (l.map encKV)) = l.length := by
  simp [Maps.size]
theorem xES {b : Nat} {l : KV} (w : World) (h : SMap Tryz.prog 9 w b l) (hl : l.length <= 1000000) :
  Calls Tryz.prog 76 #[.func (.func 129) #[] #[.pointer (some ⟨w.heap.size, 0, none⟩)]] (w.alloc (.cells #[.map (some b)] 118)) fun e w' => ∃ v ns, e = .returned v /\ ns.Perm (l.map (·.1)) /\ ns.Pairwise (fun x y => leB x y = true) /\ NamR w' w.heap.size v ns /\ Below w.heap.size w w' := by
 refine (callsIn_wide.1 (Lay.slices_Sorted_keys_76_77 b l.length (.map (l.map encKV)) heldR w h.owns (by rw [x3C]; simp only [maxLen]; omega) (by rw [x3C]; omega))).mono ?_
 rintro e w' ⟨v, ss, rfl, hS, hrow, hnil, hb⟩
 have ha : Below w.heap.size w (w.alloc (.cells #[.map (some b)] 118)) := (Below.refl _ _).alloc (Nat.le_refl _) _
 refine ⟨v, ss.mergeSort leB, rfl, ?_, ?_, ?_, ha.trans (hb.mono (by simp))⟩
 ·rw [x85] at hS
  exact (List.mergeSort_perm _ _).trans hS
 ·exact List.pairwise_mergeSort (fun a b c h1 h2 => by simp only [leB, decide_eq_true_eq] at *; exact List.le_trans h1 h2) (fun a b => by simp only [leB, Bool.or_eq_true, decide_eq_true_eq]; exact List.le_total a b) _
 ·refine x0A ?_ (show w.heap.size <= (w.alloc (.cells #[.map (some b)] 118)).heap.size by simp)
  rw [List.length_mergeSort]
  exact hrow
theorem xIS (mb : Option Nat) (w : World) : Calls Tryz.prog 77 #[.map mb] w fun e w' => e = .returned (.func (.func 129) #[] #[.pointer (some ⟨w.heap.size, 0, none⟩)]) /\ w' = w.alloc (.cells #[.map mb] 118) :=
  callsIn_wide.1 (Lay.maps_Keys_77 mb w)
theorem xJ2 {w : World} {gs ms gp r c : Nat} {A : Option Addr} {bl fl : List Bool} {kv : KV} (h : StAt w gs ms gp r c A bl fl kv) (hl : kv.length <= 1000000) :
  Calls Tryz.prog 30 #[.pointer (some ⟨gs, 0, none⟩), .string noS] w fun e w' => ∃ v ns, e = .returned v /\ ns.Perm (kv.map (·.1)) /\ ns.Pairwise (fun x y => leB x y = true) /\ NamR w' w.heap.size v ns /\ Below w.heap.size w w' := by
 have hb1 : Below w.heap.size w (w.alloc (.cells #[.string noS] 9)) := (Below.refl _ _).alloc (Nat.le_refl _) _
 have h1 := h.below hb1
 have c0 := h1.c0
 have q0 : (w.alloc (.cells #[.string noS] 9)).cell? ⟨w.heap.size, 0, none⟩ = some (.string noS) := (Blk.new w 9 #[.string noS]).cell 0
 obtain ⟨w1, hw1⟩ : ∃ w1, w1 = w.alloc (.cells #[.string noS] 9) := ⟨_, rfl⟩
 rw [<- hw1] at hb1 h1 c0 q0
 have HW1 := kH hw1
 have HB1 := kH (kA hb1 q0)
 have HK := kH (xIS (some ms) w1)
 have HS := kH (xES w1 h1.map hl)
 have hwl : w.heap.size < w1.heap.size := by rw [hw1]; simp
 clear hw1 hb1 h1 h q0
 go_enter Tryz.func30, Tryz.ntmps30
 go_wp2_with (first | rw [<- HW1.out])
 refine HK.out.mono ?_
 rintro e w2 ⟨rfl, rfl⟩
 go_wp2_with fail
 refine HS.out.mono ?_
 rintro e w3 ⟨v, ns, rfl, hp, hs, hrow, hb⟩
 obtain ⟨A3, c3, rfl, hc3, hov⟩ := hrow.form
 have q3 : w3.cell? ⟨w.heap.size, 0, none⟩ = some (.string noS) := (hb.cell (p := ⟨w.heap.size, 0, none⟩) hwl).trans HB1.out.2
 have hnl : ns.length <= 1000000 := by rw [hp.length_eq, List.length_map]; exact hl
 have HD := kH (xGF (c := c3) hrow.reads hnl q3)
 have HX := kH (kA hp (kA hs (kA hrow hb)))
 clear hp hs hrow hb hov q3
 unfold preV at HD
 go_wp2_with fail
 refine HD.out.mono ?_
 rintro e w4 ⟨rfl, rfl⟩
 go_wp2
 go_ret
 obtain ⟨hp, hs, hrow, hb⟩ := HX.out
 exact ⟨_, ns, rfl, hp, hs, x0A hrow (by omega), HB1.out.1.trans (hb.mono (by omega))⟩
end
section
open Go.RowKit Go.BigFrame
def M0 (n : Nat) : Mod := ⟨flags8, List.replicate n true, []⟩
theorem inv0 {n : Nat} (h : n <= 65536) : Inv 0 (M0 n) where
 keys := List.nodup_nil
 few := Nat.le_refl _
 len := by simpa [M0] using h
 bl := rfl
 good := ⟨fun e he => (by cases he), List.Pairwise.nil, fun e he => (by cases he), fun j hj => ⟨fun hc => absurd hc Cov.nil, fun hf => by
  simp [M0] at hj
  simp [M0, hj] at hf⟩⟩
 obs := fun p hp => by cases hp
 nms := fun p hp => by cases hp
theorem x2Q {gp r : Nat} {fl fl' : List Bool} (h : fl'.length = fl.length) : foot gp r fl' = foot gp r fl := by
 unfold foot
 by_cases hf : fl = []
 ·have : fl' = [] := List.eq_nil_of_length_eq_zero (by rw [h, hf]; rfl)
  rw [if_pos hf, if_pos this]
 ·have : fl' ≠ [] := fun e => hf (List.eq_nil_of_length_eq_zero (by rw [<- h, e]; rfl))
  rw [if_neg hf, if_neg this]
theorem xAH {w : World} {s : SV} {B : Nat} (hd : Bytes w B s.D s.x.dt.length s.x.dt) (h1 : s.x.nm = []) (h2 : s.x.at_ = 0) (h3 : 0 <= s.x.ln /\ s.x.ln <= 65536) (h4 : s.x.dt.length <= 1000000) : StepIn w s.x B s.D :=
  ⟨hd, (by rw [h1]; intro b hb; cases hb), by omega, by omega, by omega, by omega, (by rw [h1]; simp), h4⟩
end
section
open Go.RowKit Go.BigFrame
def keyL (k : Key) : List Nat := k.map UInt8.toNat
theorem x60 (k : Key) : keyB (keyL k) = k := by
 unfold keyB keyL
 rw [List.map_map]
 conv => rhs; rw [<- List.map_id k]
 apply List.map_congr_left
 intro b _
 simp
theorem xNA (k : Key) : keyV k = .string (strOf (keyL k)) := by
  rw [<- x16, x60]
theorem x8S (k : Key) : (keyL k).length = k.length := by simp [keyL]
theorem x8W (nm : List Nat) : (keyB nm).length = nm.length := by simp [keyB]
theorem x6T {α β : Type} (f : α -> List β) {l : List α} {q : Nat} {k : α} (hk : l[q]? = some k) : (l.take (q + 1)).flatMap f = (l.take q).flatMap f ++ f k /\ ∃ post, l.flatMap f = (l.take q).flatMap f ++ f k ++ post := by
 constructor
 ·rw [List.take_add_one, hk]
  simp
 ·refine ⟨(l.drop (q + 1)).flatMap f, ?_⟩
  have hlt := (List.getElem?_eq_some_iff.1 hk).1
  conv => lhs; rw [<- List.take_append_drop q l]
  rw [List.drop_eq_getElem_cons hlt]
  have : l[q] = k := (List.getElem?_eq_some_iff.1 hk).2
  rw [this]
  simp
end
section
open Go.RowKit Go.BigFrame
theorem x3I (w : World) (p : Addr) (cs : List Value) (hl : cs.length = 8) (hc : ∀ j v, cs[j]? = some v -> w.cell? (p.add j) = some v) : (loadVar 119 p).run Tryz.prog w = .ok (.agg cs.toArray) w := by
 have hl : (loadCells p 8).run Tryz.prog w = .ok cs.toArray w := by have := run_loadCells_list (P := Tryz.prog) w p cs hc; rwa [hl] at this
 have hagg : (isAgg 119).run Tryz.prog w = .ok true w := by
  unfold isAgg
  rw [Sem.run_bind, run_underlying Tryz.underlying119 w]
  rfl
 have hi : (Tryz.prog.info? 119).map (·.size) = some 8 := by kernel_rfl
 cases hq : Tryz.prog.info? 119 with
 | none => simp [hq] at hi
 | some i =>
  have hs : i.size = 8 := by simpa [hq] using hi
  simp [loadVar, Sem.run_bind, hagg, sizeOf, typeInfo, hq, hs, hl]
theorem x96 {a : Act} {o : Oper} {x : Operand} {w : World} {gs ms gp : Nat} {bl : List Bool} (hl : bl.length = 8) (ho : o.op = .load 119 x) (hx : a.eval x = .pointer (some ⟨gs, 1, none⟩)) (h : Blk w gs 122 (stC ms bl gp)) : (execOp a.eval o).run Tryz.prog w = .ok (.value (.agg (bl.map Value.bool).toArray)) w := by
 have hr := x3I w ⟨gs, 1, none⟩ (bl.map Value.bool) (by simpa using hl) (fun j v hj => by
  have : (⟨gs, 1, none⟩ : Addr).add j = ⟨gs, 1 + j, none⟩ := by simp [Addr.add]
  rw [this, h.cell]
  have hj8 := (List.getElem?_eq_some_iff.1 hj).1
  simp only [stC, List.getElem?_toArray]
  rw [Nat.add_comm, List.getElem?_cons_succ, List.getElem?_append_left hj8]
  exact hj)
 unfold execOp
 simp only [ho, hx, Instr.loadAt, Instr.sureAddr, Sem.run_bind, Sem.run_pure, Result.andThen_ok, hr]
def StCopyTo (w : World) (bl fl : List Bool) (kv : KV) (e : Ending) (w' : World) : Prop := ∃ gs ms gp r c A, e = .returned (.pointer (some ⟨gs, 0, none⟩)) /\ StAt w' gs ms gp r c A bl fl kv /\ w.heap.size <= gs /\ w.heap.size <= ms /\ w.heap.size <= gp /\ w.heap.size <= r /\ Below w.heap.size w w'
set_option maxHeartbeats 4000000 in
theorem xGT {w : World} {gs ms gp r c : Nat} {A : Option Addr} {bl fl : List Bool} {kv : KV} (h : StAt w gs ms gp r c A bl fl kv) :
  Calls Tryz.prog 55 #[.pointer (some ⟨gs, 0, none⟩)] w (StCopyTo w bl fl kv) := by
 obtain ⟨b0, b1, b2, b3, b4, b5, b6, b7, rfl⟩ : ∃ b0 b1 b2 b3 b4 b5 b6 b7, bl = [b0, b1, b2, b3, b4, b5, b6, b7] := by
  have hl := h.len
  match bl, hl with
  | [b0, b1, b2, b3, b4, b5, b6, b7], _ => exact ⟨b0, b1, b2, b3, b4, b5, b6, b7, rfl⟩
 have HH := kH h
 have HC : Hid (∀ w', Blk w' gs 122 (stC ms [b0, b1, b2, b3, b4, b5, b6, b7] gp) -> w'.cell? ⟨gs, 0, none⟩ = some (.map (some ms)) /\ w'.cell? ⟨gs, 9, none⟩ = some (.pointer (some ⟨gp, 0, none⟩))) := kH fun w' hb => by
  have hl := h.len
  constructor
  ·rw [hb.cell]; simp [stC]
  ·rw [hb.cell]
   simp only [stC, List.getElem?_toArray]
   rw [List.getElem?_cons_succ, List.getElem?_append_right (by simp [hl])]
   simp [hl]
 clear h
 go_enter Tryz.func55, Tryz.ntmps55
 go_upto_region 3 with (fail)
 have hS : Blk w.drew gs 122 (stC ms [b0, b1, b2, b3, b4, b5, b6, b7] gp) := HH.out.blk.drew
 refine x09 (fun w' => Blk w' gs 122 (stC ms [b0, b1, b2, b3, b4, b5, b6, b7] gp)) 16 (by kernel_rfl) ?_
 refine tL (i := 0) (v := .pointer (some ⟨gs, 0, none⟩)) rfl rfl (by kernel_rfl) (by rfl) (fun w hw => by kernel_rfl) hS ?_
 simp only [Act.put, nB, nC, nD, nE, nF, nG]
 refine tL (i := 1) (v := .pointer (some ⟨gs, 0, none⟩)) rfl rfl (by kernel_rfl) (by rfl) (fun w hw => by kernel_rfl) hS ?_
 simp only [Act.put, nB, nC, nD, nE, nF, nG]
 refine tL (i := 2) (v := .pointer (some ⟨gs, 0, none⟩)) rfl rfl (by kernel_rfl) (by rfl) (fun w hw => by go_simp) hS ?_
 simp only [Act.put, nB, nC, nD, nE, nF, nG]
 refine tL (i := 3) (v := .map (some ms)) rfl rfl (by kernel_rfl) (by rfl) (fun w hw => by have q := (HC.out w hw).1; go_simp) hS ?_
 simp only [Act.put, nB, nC, nD, nE, nF, nG]
 refine tL (i := 5) (v := .pointer (some ⟨gs, 0, none⟩)) rfl rfl (by kernel_rfl) (by rfl) (fun w hw => by kernel_rfl) hS ?_
 simp only [Act.put, nB, nC, nD, nE, nF, nG]
 refine tL (i := 6) (v := .pointer (some ⟨gs, 0, none⟩)) rfl rfl (by kernel_rfl) (by rfl) (fun w hw => by kernel_rfl) hS ?_
 simp only [Act.put, nB, nC, nD, nE, nF, nG]
 refine tL (i := 7) (v := .pointer (some ⟨gs, 1, none⟩)) rfl rfl (by kernel_rfl) (by rfl) (fun w hw => by go_simp) hS ?_
 simp only [Act.put, nB, nC, nD, nE, nF, nG]
 refine tL (i := 8) (v := .agg ([b0, b1, b2, b3, b4, b5, b6, b7].map Value.bool).toArray) rfl rfl (by kernel_rfl) (by rfl) (fun w hw => by exact x96 HH.out.len rfl rfl hw) hS ?_
 simp only [Act.put, nB, nC, nD, nE, nF, nG]
 refine tL (i := 9) (v := .pointer (some ⟨gs, 0, none⟩)) rfl rfl (by kernel_rfl) (by rfl) (fun w hw => by kernel_rfl) hS ?_
 simp only [Act.put, nB, nC, nD, nE, nF, nG]
 refine tL (i := 10) (v := .pointer (some ⟨gs, 0, none⟩)) rfl rfl (by kernel_rfl) (by rfl) (fun w hw => by kernel_rfl) hS ?_
 simp only [Act.put, nB, nC, nD, nE, nF, nG]
 refine tL (i := 11) (v := .pointer (some ⟨gs, 9, none⟩)) rfl rfl (by kernel_rfl) (by rfl) (fun w hw => by go_simp) hS ?_
 simp only [Act.put, nB, nC, nD, nE, nF, nG]
 refine tL (i := 12) (v := .pointer (some ⟨gp, 0, none⟩)) rfl rfl (by kernel_rfl) (by rfl) (fun w hw => by have q := (HC.out w hw).2; go_simp) hS ?_
 simp only [Act.put, nB, nC, nD, nE, nF, nG]
 refine x01 (j := 4) (by kernel_rfl) rfl (by rfl) ?_
 simp only [Act.put, nB, nC, nD, nE, nF, nG]
 have hb0 : Below w.heap.size w w.drew := x08 (Below.refl _ _) 1
 have h0 := HH.out.below hb0
 refine x03 (by kernel_rfl) (xEH h0.map) ?_
 rintro e w1 ⟨rfl, hm1, hb1⟩
 have h1 := h0.below hb1
 refine ⟨_, rfl, h1.blk, ?_⟩
 simp only [Act.put, nB, nC, nD, nE, nF, nG]
 refine x01 (j := 13) (by kernel_rfl) rfl (by rfl) ?_
 simp only [Act.put, nB, nC, nD, nE, nF, nG]
 refine x03 (by kernel_rfl) (xJY h1.sp) ?_
 rintro e w2 ⟨p, rfl, g2, r2, A2, c2, rfl, hs2, hne2, hg2, hr2, hb2⟩
 have h2 := h1.below hb2
 refine ⟨_, rfl, h2.blk, ?_⟩
 simp only [Act.put, nB, nC, nD, nE, nF, nG]
 refine x01 (j := 14) (by kernel_rfl) rfl (by rfl) ?_
 simp only [Act.put, nB, nC, nD, nE, nF, nG]
 refine x0B (v := .agg (stC w.drew.heap.size [b0, b1, b2, b3, b4, b5, b6, b7] g2)) (w' := w2) (by kernel_rfl) ⟨h2.blk, ?_⟩
 simp only [Act.put, nB, nC, nD, nE, nF, nG]
 refine x01 (j := 15) (by kernel_rfl) rfl (by rfl) ?_
 simp only [Act.put, nB, nC, nD, nE, nF, nG]
 have hz0 : w.drew.heap.size = w.heap.size := rfl
 have hz1 := hb1.size
 have hz2 := hb2.size
 have hb3 : Below w2.heap.size w2 (w2.alloc (.cells (stC w.drew.heap.size [b0, b1, b2, b3, b4, b5, b6, b7] g2) 122)) := (Below.refl _ _).alloc (Nat.le_refl _) _
 have K3 := Blk.new w2 122 (stC w.drew.heap.size [b0, b1, b2, b3, b4, b5, b6, b7] g2)
 refine x0B (v := .pointer (some ⟨w2.heap.size, 0, none⟩)) (w' := w2.alloc (.cells (stC w.drew.heap.size [b0, b1, b2, b3, b4, b5, b6, b7] g2) 122)) (by kernel_rfl) ⟨(h2.below hb3).blk, ?_⟩
 simp only [Act.put, nB, nC, nD, nE, nF, nG]
 have hfin : StCopyTo w [b0, b1, b2, b3, b4, b5, b6, b7] fl kv (.returned (.pointer (some ⟨w2.heap.size, 0, none⟩))) (w2.alloc (.cells (stC w.drew.heap.size [b0, b1, b2, b3, b4, b5, b6, b7] g2) 122)) := by
  have hm3 := (hm1.of (hb2.block _ hm1.lt)).of (hb3.block _ (hm1.of (hb2.block _ hm1.lt)).lt)
  have hsp := hs2.of (hb3.block _ hs2.blk.lt) (fun _ _ hx => hb3.block _ hx.lt)
  have hb01 : Below w.heap.size w w1 := x0K (w := w) (hb1.mono (by omega))
  exact ⟨_, w.drew.heap.size, g2, r2, c2, A2, rfl, ⟨K3, HH.out.len, hm3, hsp, hne2⟩, by omega, by omega, by omega, by omega, (hb01.trans (hb2.mono (by omega))).trans (hb3.mono (by omega))⟩
 have HFIN := kH hfin
 clear hfin hb3 K3 h2 hb2 hs2 hne2 hg2 hr2 h1 hb1 hm1 h0 hb0 HH HC hS
 refine x1V (by kernel_rfl) rfl (by rfl) (by kernel_rfl) ?_
 simp only [Act.put, nB, nC, nD, nE, nF, nG]
 refine x0B (v := .pointer (some ⟨w2.heap.size, 0, none⟩)) (w' := w2.alloc (.cells (stC w.drew.heap.size [b0, b1, b2, b3, b4, b5, b6, b7] g2) 122)) (by kernel_rfl) ?_
 refine NoPanic.normal ?_
 simp only [Act.put, nB, nC, nD, nE, nF, nG]
 generalize w2.alloc (.cells (stC w.drew.heap.size [b0, b1, b2, b3, b4, b5, b6, b7] g2) 122) = w3 at HFIN ⊢
 generalize w2.heap.size = g3 at HFIN ⊢
 go_wp2
 go_ret
 exact HFIN.out
end
section
open Go.RowKit Go.BigFrame Go.Shelf Go.Sort Go.Maps Go.WideElems
theorem SMap.key_len {P : Program} {kt : TypeId} {w : World} {b : Nat} {l : KV} (hk : P.underlying kt = some .string) (h : SMap P kt w b l) {p : Key × Value} (hp : p ∈ l) : p.1.length <= maxLen := by
 obtain ⟨es, c, h1, h2, h3⟩ := h
 have hm : encKV p ∈ l.map encKV := List.mem_map.2 ⟨p, hp, rfl⟩
 rw [<- h3] at hm
 obtain ⟨x, hx, e⟩ := List.mem_map.1 ((WideShapes.sorted_perm _).mem_iff.1 hm)
 obtain ⟨y, hy⟩ := h2.reads x hx
 have hr : rg P kt heldR x = y := rg_of hy
 have hy1 := rd_key hy
 rw [<- hr, e] at hy1
 simp only [keyOf, mapKey, hk, encKV] at hy1
 split at hy1
 all_goals first | (simp at hy1; done) | skip
 all_goals
  simp at hy1
  obtain ⟨h4, h5⟩ := hy1
  rw [<- h5]
  first | exact h4 | simpa using h4
theorem xGR (mb : Option Nat) (w : World) : Calls Tryz.prog 154 #[.map mb] w fun e w' => e = .returned (.func (.func 208) #[] #[.pointer (some ⟨w.heap.size, 0, none⟩)]) /\ w' = w.alloc (.cells #[.map mb] 134) :=
  callsIn_wide.1 (Lay.maps_Keys_154 mb w)
theorem xKA : (Tryz.prog.info? 196).map (fun i => (i.zero, i.size, i.bytes)) = some (some (.agg #[.string { data := #[] }, .slice none 0 0]), 2, 40) := by kernel_rfl
theorem xKO {w : World} {ops : Array Oper} {rest : List Oper} {o : Oper} {a : Act} {Q : Exit -> Act -> World -> Prop} (s x : Operand)
  (hgd : o.guard = none) (ho : o.op = .call { callee := .builtin .append, args := #[s, x], argTypes := #[193, 193] })
  (base : Nat) (v : Value) (n : Nat) (xs : List Value) (hs : a.eval s = v) (hown : w.ownsRow base 196 2 v n xs)
  (B : Nat) (A : Option Addr) (m c : Nat) (news : List Value) (hx : a.eval x = .slice A m c) (hr : Reads w B 2 A m news) (h1 : ∀ u ∈ news, u.oneCell' = true)
  (hsz : n + m <= 10000000) (hbase : base <= w.heap.size)
  (h : ∀ v' w', w'.ownsRow base 196 2 v' (n + m) (xs ++ news) -> w.grownBy w' v.ownBlock -> wpList Tryz.prog ops Q rest (a.put o.dst v') w') :
  wpList Tryz.prog ops Q (o :: rest) a w := by
 obtain ⟨i0, hi0, hz0, hz1, hz2⟩ := info_parts xKA
 exact x0X w hgd s x _ ho base 196 i0 _ 2 40 Tryz.underlying193 hi0 hz0 hz1 hz2 rfl (by omega) v n xs hs hown B A m c news hx hr h1 (by simp only [maxLen]; omega) (by omega) hbase (fun v' w' h1 h2 _ => h v' w' h1 h2)
theorem xGQ (s : ByteArray) (u : Value) (hu : u.oneCell' = true) (w : World) : (Instr.buildSlice 193 1 #[(0, .agg #[.string s, u])]).run Tryz.prog w = .ok (.slice (some ⟨w.heap.size, 0, none⟩) 1 1) (w.alloc (.cells #[.string s, u] 196)) :=
  x1A (size := 2) Tryz.underlying193 (by kernel_rfl) (by omega) (by omega) rfl w
end
section
open Go.RowKit Go.BigFrame
section
variable {w w' : World} {Z Z' : List Nat} {gs ms gp r c gs2 ms2 gp2 r2 c2 : Nat} {A A2 : Option Addr} {M M2 : Mod} {kv kv2 : KV}
theorem StoreAt.wide (h : StoreAt w Z gs ms gp r c A M kv) (hb : Below w.heap.size w w') (hZ : ∀ z ∈ Z', z ∈ Z ∨ w.heap.size <= z) : StoreAt w' Z' gs ms gp r c A M kv :=
 ⟨h.st.below hb, h.obs.imp fun p q hr => ⟨hr.1, by
  obtain ⟨go, mb, c1, ce, D, E, kv1, e, h1, h2⟩ := hr.2
  exact ⟨go, mb, c1, ce, D, E, kv1, e, fun hm => by
   rcases hZ mb hm with h3 | h3
   ·exact h1 h3
   ·have := h2.map.lt; omega, h2.below hb⟩⟩⟩
theorem StoreAt.kinds (h : StoreAt w Z gs ms gp r c A M kv) {k : Nat} (hk : k ∈ ms :: foot gp r M.fl) : k = ms ∨ (∃ cs, k = gp /\ Blk w k 190 cs) ∨ (∃ cs, M.fl ≠ [] /\ k = r /\ Blk w k 4 cs) := by
 rcases List.mem_cons.1 hk with e | hk
 ·exact .inl e
 ·rcases x1Q hk with rfl | ⟨hf, rfl⟩
  ·exact .inr (.inl ⟨_, rfl, h.st.sp.blk⟩)
  ·rcases h.st.sp.row with e | ⟨_, cs, hb, _⟩
   ·exact absurd e hf
   ·exact .inr (.inr ⟨cs, hf, rfl, hb⟩)
theorem StoreAt.odd (h : StoreAt w Z gs ms gp r c A M kv) {e : TypeId} (h1 : 190 ≠ e) (h2 : 4 ≠ e) : ∀ k ∈ ms :: foot gp r M.fl, Odd w e k := fun k hk => by
 rcases h.kinds hk with rfl | ⟨cs, _, hb⟩ | ⟨cs, _, _, hb⟩
 ·exact Odd.map h.st.map
 ·exact Odd.blk hb h1
 ·exact Odd.blk hb h2
end
end
section
open Go.RowKit Go.BigFrame
structure InvP (n : Nat) (M : Mod) : Prop where
 keys : Keys1 M.ob
 few : M.ob.length <= n
 obs : ∀ p ∈ M.ob, OkO n p.2
 nms : ∀ p ∈ M.ob, ∃ nm, p.1 = keyB nm /\ isNameB nm = true
 pos : ∀ p ∈ M.ob, ∀ e ∈ p.2.e, 1 <= e.2
theorem Inv.p {n : Nat} {M : Mod} (h : Inv n M) : InvP n M := ⟨h.keys, h.few, h.obs, h.nms, fun p hp e he => h.good.pos e (List.mem_flatMap.2 ⟨p, hp, he⟩)⟩
theorem xET {n : Nat} {M : Mod} (h : InvP n M) {kv : KV} {w : World} {Z : List Nat} (ho : Rel2 (ObjR w Z) kv M.ob) {ns : List Key} (hp : ns.Perm (kv.map (·.1))) {k : Key} (hk : k ∈ ns) : ∃ o nm, gget M.ob k = some o /\ k = keyB nm /\ isNameB nm = true := by
 have hm : k ∈ M.ob.map (·.1) := by rw [<- ho.keys ObjR.key]; exact hp.mem_iff.1 hk
 obtain ⟨p, hp, rfl⟩ := List.mem_map.1 hm
 obtain ⟨nm, e, hn⟩ := h.nms p hp
 exact ⟨p.2, nm, h.keys.get hp, e, hn⟩
theorem xHD {n : Nat} {M : Mod} (h : InvP n M) {k : Key} {o : Ob} (hg : gget M.ob k = some o) (hn : n <= 1000000) : o.a.length <= 1000000 /\ o.e.length <= 1000000 /\ (∀ q ∈ o.a, q.2.length <= 65536) := by
 have hm := x1O hg
 have ho := h.obs _ hm
 have hl := x28 (L := o.e) (fun e he => h.pos _ hm e he)
 have h1 := ho.e
 have h2 := ho.d
 have h3 := ho.a
 unfold needsB at h1
 simp only at h1 h2 h3
 exact ⟨by omega, by omega, ho.v⟩
end
section
open Go.RowKit Go.BigFrame Go.Shelf Go.Sort Go.Maps Go.WideElems
def srt (l : List Key) : List Key := l.mergeSort leB
theorem xDZ {ns l : List Key} (hp : ns.Perm l) (hs : ns.Pairwise (fun x y => leB x y = true)) : ns = srt l := by
 have h2 : (srt l).Pairwise (fun x y => leB x y = true) := List.pairwise_mergeSort (fun a b c h1 h2 => by simp only [leB, decide_eq_true_eq] at *; exact List.le_trans h1 h2) (fun a b => by simp only [leB, Bool.or_eq_true, decide_eq_true_eq]; exact List.le_total a b) _
 exact List.Perm.eq_of_pairwise (le := fun x y => leB x y = true) (fun a b _ _ h1 h2 => by
  simp only [leB, decide_eq_true_eq] at h1 h2
  exact List.le_antisymm h1 h2) hs h2 (hp.trans (List.mergeSort_perm _ _).symm)
theorem xOT (l : List Key) : (srt l).length = l.length := List.length_mergeSort _
def atC (p : Key × Value) : List Value := [keyV p.1, p.2]
theorem xFG (p : Key × Value) : (atC p).length = 2 := rfl
def atR (w : World) (B : Nat) (p : Key × Value) (q : Key × List Nat) : Prop := p.1 = q.1 /\ RowR w B [] p.2 q.2
def atL (a : AL) (l : List Key) : AL := l.map fun k => (k, (gget a k).getD [])
def AttrsTo (w : World) (a : AL) (e : Ending) (w' : World) : Prop := ∃ A2 c2 l, e = .returned (.slice A2 a.length c2) /\ w'.ownsRow w.heap.size 196 2 (.slice A2 a.length c2) a.length (l.flatMap atC) /\ Rel2 (atR w' w.heap.size) l (atL a (srt (a.map (·.1)))) /\ Below w.heap.size w w'
theorem xBU {b : Nat} {l : KV} (w : World) (h : SMap Tryz.prog 9 w b l) (hl : l.length <= 1000000) :
  Calls Tryz.prog 76 #[.func (.func 208) #[] #[.pointer (some ⟨w.heap.size, 0, none⟩)]] (w.alloc (.cells #[.map (some b)] 134)) fun e w' => ∃ v ns, e = .returned v /\ ns.Perm (l.map (·.1)) /\ ns.Pairwise (fun x y => leB x y = true) /\ NamR w' w.heap.size v ns /\ Below w.heap.size w w' := by
 refine (callsIn_wide.1 (Lay.slices_Sorted_keys_76_154 b l.length (.map (l.map encKV)) heldR w h.owns (by rw [x3C]; simp only [maxLen]; omega) (by rw [x3C]; omega))).mono ?_
 rintro e w' ⟨v, ss, rfl, hS, hrow, hnil, hb⟩
 have ha : Below w.heap.size w (w.alloc (.cells #[.map (some b)] 134)) := (Below.refl _ _).alloc (Nat.le_refl _) _
 refine ⟨v, ss.mergeSort leB, rfl, ?_, ?_, ?_, ha.trans (hb.mono (by simp))⟩
 ·rw [x85] at hS
  exact (List.mergeSort_perm _ _).trans hS
 ·exact List.pairwise_mergeSort (fun a b c h1 h2 => by simp only [leB, decide_eq_true_eq] at *; exact List.le_trans h1 h2) (fun a b => by simp only [leB, Bool.or_eq_true, decide_eq_true_eq]; exact List.le_total a b) _
 ·refine x0A ?_ (show w.heap.size <= (w.alloc (.cells #[.map (some b)] 134)).heap.size by simp)
  rw [List.length_mergeSort]
  exact hrow
set_option maxHeartbeats 8000000 in
theorem StoreAt.attrs2 {w : World} {Z : List Nat} {gs ms gp r c : Nat} {A : Option Addr} {M : Mod} {kv : KV} (h : StoreAt w Z gs ms gp r c A M kv) (bs : List Nat) (hl : bs.length <= 1000000) {o : Ob} (hg : gget M.ob (keyB bs) = some o) (ha : o.a.length <= 1000000) (hv : ∀ q ∈ o.a, q.2.length <= 65536) :
  Calls Tryz.prog 104 #[.pointer (some ⟨gs, 0, none⟩), .string (strOf bs)] w (AttrsTo w o.a) := by
 rcases h.obs.get ObjR.key (keyB bs) with ⟨_, h2⟩ | ⟨v, u, h1, h2, -, go, mb, c1, ce, D, E, kv1, e, -, hat⟩
 ·rw [hg] at h2; cases h2
 rw [hg] at h2
 injection h2 with h2
 subst h2
 have hvv : aget kv (keyB bs) = some (.pointer (some ⟨go, 0, none⟩)) := by rw [h1]; exact congrArg some e
 have HO := kH (x97 h.st bs hl)
 rw [hvv, Option.getD_some] at HO
 have q1 : w.cell? ⟨go, 1, none⟩ = some (.map (some mb)) := hat.blk.cell 1
 have hkl : kv1.length = o.a.length := hat.att.len
 have HA := kH hat
 have HK := kH (xGR (some mb) w)
 have HS := kH (xBU w hat.map (by omega))
 have HV := kH hv
 have hgol := hat.blk.lt
 clear h h1 hg e hat hvv hv
 go_enter Tryz.func104, Tryz.ntmps104
 go_wp2_with fail
 refine HO.out.mono ?_
 rintro e w' ⟨rfl, rfl⟩
 go_wp2_with fail
 refine HK.out.mono ?_
 rintro e w2 ⟨rfl, rfl⟩
 go_wp2_with fail
 refine HS.out.mono ?_
 rintro e w3 ⟨v, ns, rfl, hnp, hnsr, hrow, hb⟩
 obtain ⟨An, cn, rfl, hcn, hnov⟩ := hrow.form
 have hnl : ns.length = o.a.length := by rw [hnp.length_eq, List.length_map]; exact hkl
 have hnsq : ns = srt (o.a.map (·.1)) := by
  have hk1 := HA.out.att.keys AttrR.key
  rw [<- hk1]
  exact xDZ hnp hnsr
 have HNSQ := kH hnsq
 have HX := kH (kA hnp (kA hrow hb))
 have hgs3 : go < w3.heap.size := by have := hb.size; omega
 clear hnp hrow hb hnov HO HK HS hnsr hnsq
 have hz : ∀ w, (zeroValue 35).run Tryz.prog w = .ok (.slice none 0 0) w := fun w => by kernel_rfl
 go_wp2
 go_loopw [6, 21] (fun lv iv wr => ∃ (k : Nat) (l : List (Key × Value)), k <= ns.length /\ iv = .int .i64 k /\ wr.ownsRow w3.heap.size 196 2 lv k (l.flatMap atC) /\ Rel2 (atR wr w3.heap.size) l (atL o.a (ns.take k)) /\ Below w3.heap.size w3 wr) (fun _ iv _ => ns.length - (intS iv).toNat)
 case atStart => exact ⟨0, [], by omega, rfl, World.ownsRow_nil _ _ _ _, .nil, Below.refl _ _⟩
 case round =>
  obtain ⟨k, l, hk, rfl, hown, hrl, hb⟩ := hrel
  have HRL := kH hrl
  clear hrl
  obtain ⟨wo, hwo⟩ : ∃ wo, wo = wr := ⟨_, rfl⟩
  subst hwo
  obtain ⟨A1, cap, rfl⟩ : ∃ A1 cap, u6 = .slice A1 k cap := by
   rcases hown.2 with ⟨e, h0⟩ | ⟨g, c4, cur, e, _⟩
   ·exact ⟨none, 0, by rw [e, h0]⟩
   ·exact ⟨_, c4, e⟩
  have HW := kH (kA hown hb)
  have hwk : IntKind.i64.wrap ((k : Int) + 1) = (k : Int) + 1 := by rw [IntKind.wrap_i64]; omega
  have hbw : Below w.heap.size w wo := HX.out.2.2.trans (hb.mono HX.out.2.2.size)
  by_cases hlt : k < ns.length
  ·obtain ⟨kq, hkq⟩ : ∃ kq, ns[k]? = some kq := ⟨_, List.getElem?_eq_getElem hlt⟩
   have hrow : NamR wo _ (.slice An ns.length cn) ns := HX.out.2.1.below hb
   obtain ⟨ad, u2, rfl, hab, hu2, hc⟩ := hrow.reads.at_ hlt
   have hu2' : u2 = keyV kq := by
    rw [List.getElem?_map, hkq, Option.map_some] at hu2
    injection hu2 with hu2
    exact hu2.symm
   subst hu2'
   have hat := HA.out.below hbw
   have c1 : wo.cell? ⟨go, 1, none⟩ = some (.map (some mb)) := hat.blk.cell 1
   have hm : kq ∈ kv1.map (·.1) := HX.out.1.mem_iff.1 (List.mem_of_getElem? hkq)
   obtain ⟨p, hp, hpk⟩ := List.mem_map.1 hm
   have hkl2 := hat.map.key_len Tryz.underlying9 hp
   rw [hpk] at hkl2
   have hlk := x34 (P := Tryz.prog) (t := 134) (et := 35) Tryz.underlying9 Tryz.underlying134 (hz wo) hat.map kq hkl2
   obtain ⟨v, bsv, e1, e2, e3⟩ : ∃ v bsv, aget kv1 kq = some v /\ gget o.a kq = some bsv /\ AttrR wo [] (kq, v) (kq, bsv) := by
    rcases hat.att.get AttrR.key kq with ⟨h1, _⟩ | ⟨v, u, h1, h2, h3⟩
    ·exfalso
     rw [hat.att.keys AttrR.key] at hm
     have hg0 : gget o.a kq = none := by
      rcases hat.att.get AttrR.key kq with ⟨_, h2⟩ | ⟨v, u, h1', _, _⟩
      ·exact h2
      ·rw [h1] at h1'; cases h1'
     obtain ⟨p', hp', e'⟩ := List.mem_map.1 hm
     exact xBI hg0 p' hp' e'
    ·exact ⟨v, u, h1, h2, h3⟩
   have htk : atL o.a (ns.take (k + 1)) = atL o.a (ns.take k) ++ [(kq, bsv)] := by
    unfold atL
    rw [List.take_add_one, hkq, List.map_append]
    simp [e2]
   have HTK := kH htk
   have HSV : Hid (∀ b ∈ bsv, b < 256) := kH (by obtain ⟨_, _, _, _, h, _⟩ := e3.2; exact h)
   clear htk
   rw [e1, Option.getD_some] at hlk
   obtain ⟨Av, cv, rfl, hov, hsv, -⟩ := e3.2
   have hbl : bsv.length <= 65536 := HV.out _ (x1O e2)
   have HBC := kH (x0P Av bsv.length cv bsv wo wo.heap.size (by omega) (Own.bytes hov hsv))
   have hbs := xGQ
   clear hkq hrow hu2 hat hm hp hpk hkl2 e1 e2 e3 hov hsv hown hb hbw
   unfold keyV at *
   go_wp2_with fail
   refine HBC.out.mono ?_
   rintro e w5 ⟨vc, rfl, hoc, hb5⟩
   have hbu : ∃ Ac cc, vc = .slice Ac bsv.length cc := by
    rcases hoc.2 with ⟨e, h0⟩ | ⟨g, c4, cur, e, _⟩
    ·exact ⟨none, 0, by rw [e, h0]⟩
    ·exact ⟨_, c4, e⟩
   obtain ⟨Ac, cc, rfl⟩ := hbu
   have hbs5 := hbs { data := (kq.toArray) } (.slice Ac bsv.length cc) rfl w5
   have hs35 := HW.out.2.size
   have HRW5 : Hid (RowR w5 w3.heap.size [] (.slice Ac bsv.length cc) bsv) := kH ⟨Ac, cc, rfl, x0A hoc hs35, HSV.out, fun _ _ h => by cases h⟩
   have H5 := kH (kA (x05 HW.out.1 fun j hj => hb5.block j (x02 HW.out.1 j hj)) hb5)
   have hs5 := hb5.size
   have hs3 := HW.out.2.size
   have hnew := Reads.newN w5 [.string { data := kq.toArray }, .slice Ac bsv.length cc] 1 2 196 (0, 0) rfl
   have HNEW := kH hnew
   have hsA : w5.heap.size < (w5.alloc (.cells #[.string { data := kq.toArray }, .slice Ac bsv.length cc] 196)).heap.size := by simp
   have HB6 := kH (H5.out.2.alloc (by omega) (.cells #[.string { data := kq.toArray }, .slice Ac bsv.length cc] 196))
   have HOW := kH (show (w5.alloc (.cells #[.string { data := kq.toArray }, .slice Ac bsv.length cc] 196)).ownsRow w3.heap.size 196 2 (.slice A1 k cap) k (l.flatMap atC) from x05 H5.out.1 fun j hj => Below.heap_alloc _ _ _ (x02 H5.out.1 j hj))
   have HB5 := kH (show Below w3.heap.size w3 (w5.alloc (.cells #[.string { data := kq.toArray }, .slice Ac bsv.length cc] 196)) from (HW.out.2.trans (H5.out.2.mono hs3)).alloc (by omega) _)
   clear hoc hb5 HBC hbs hlk hnew
   go_wp2_with (refine xKO (.tmp 25) (.tmp 35) rfl rfl w3.heap.size (.slice A1 k cap) k (l.flatMap atC) rfl HOW.out (w5.heap.size + 1) _ 1 1 [.string { data := kq.toArray }, .slice Ac bsv.length cc] rfl HNEW.out (by simp [Value.oneCell']) (by omega) (by omega) ?_; intro v2 w2 h2 g2)
   have hb6 : Below w3.heap.size w3 w2 := by
    exact HB5.out.grown g2 (by simp; omega) (fun j hj => (World.ownsRow.lt HOW.out _ hj).1)
   have honl : Only (rowOf (.slice A1 k cap)) (w5.alloc (.cells #[.string { data := kq.toArray }, .slice Ac bsv.length cc] 196)) w2 := (Only.refl _ _).grown g2 (fun j e => .inl (x00.2 e))
   have hodd : ∀ j ∈ rowOf (.slice A1 k cap), Odd (w5.alloc (.cells #[.string { data := kq.toArray }, .slice Ac bsv.length cc] 196)) 5 j := fun j hj => by
    obtain ⟨cs, hb⟩ := x0G HOW.out (x00.1 hj)
    exact Odd.blk hb (by decide)
   have hrl2 : Rel2 (atR w2 w3.heap.size) (l ++ [(kq, .slice Ac bsv.length cc)]) (atL o.a (ns.take (k + 1))) := by
    rw [HTK.out]
    have g1 := HRL.out.imp fun a b (hr : atR _ _ a b) => (show atR w2 w3.heap.size a b from ⟨hr.1, (hr.2.below HB6.out).only honl fun j hj => .inr (hodd j hj)⟩)
    exact g1.app (.cons ⟨rfl, (HRW5.out.below (x06 _ _)).only honl fun j hj => .inr (hodd j hj)⟩ .nil)
   have hfl : (l ++ [(kq, Value.slice Ac bsv.length cc)]).flatMap atC = l.flatMap atC ++ [.string { data := kq.toArray }, .slice Ac bsv.length cc] := by
    rw [List.flatMap_append]; rfl
   rw [<- hfl] at h2
   have H6 := kH (kA h2 (kA hrl2 hb6))
   clear h2 g2 hb6 honl hodd hrl2 hfl
   go_wp2
   go_roundw
   case rel => exact ⟨k + 1, _, by omega, by go_num, H6.out.1, H6.out.2.1, H6.out.2.2⟩
   case measure => simp [intS]; omega
  ·obtain rfl : k = ns.length := by omega
   have hfin := HW.out
   go_wp2
   go_ret
   have hf1 := HW.out.1
   have hf2 := HRL.out
   rw [List.take_length, HNSQ.out] at hf2
   rw [hnl] at hf1
   have hs3 := HX.out.2.2.size
   exact ⟨A1, cap, l, by rw [<- hnl]; rfl, x0A hf1 hs3, hf2.imp fun a b hr => ⟨hr.1, hr.2.weaken hs3⟩, hbw⟩
end
end Go.Proofs.YtajajlbeiikcmaaGreatDoor
