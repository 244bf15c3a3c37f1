/- Texts of the walk, joined. -/
import Derived.Test.YtpogpajjemaagaaGreatDoorZTa
import Derived.Shelf.SlMaps.Clone
import Derived.Laws.StructEq
import Derived.Lib.LaidTab
import Derived.Lib.SlBytesConst
import Derived.OpenShut
import Derived.ShutString
import Derived.ChangeOld
import Derived.Deep.Matrix
import Derived.Deep.Slices
import Derived.Deep.Grids
import Derived.Deep.Fields
import Derived.ChangeSame
import Derived.Deep.DeepHandedRow
import Derived.Deep.LoopGhost
import Derived.Laws.ResultCell
import Derived.WideShapes
import Derived.Laws.Strings
namespace Go.Proofs.YtpogpajjemaagaaGreatDoor
set_option linter.unusedSimpArgs false
set_option linter.unusedVariables false
set_option maxRecDepth 100000
open Go.Proofs.Tryz
set_option maxHeartbeats 16000000
open Go.RowKit Go.BigFrame
open List (append_assoc append_nil append_toArray cons_append drop_drop drop_eq_getElem_cons drop_left' drop_length drop_of_length_le drop_replicate drop_zero eq_nil_of_length_eq_zero ext_getElem? flatMap_append getD_eq_getElem?_getD length_cons length_drop length_map length_nil length_take map_append map_drop map_take mem_append mem_cons mem_flatMap mem_of_mem_drop mem_of_mem_take mem_replicate mem_singleton nil_append not_mem_nil push_toArray range_succ replicate_succ setIfInBounds_toArray set_append_right size_toArray take_add_one take_append_drop take_left' take_of_length_le)
abbrev kF := @Fresh.refl
abbrev kO := @Only.of_below
abbrev kW := @Blk.new
abbrev kU := @Only.refl
abbrev kV := @Reads.of_own
theorem tV {P : Program} {ops : Array Oper} {md : Region.Mode} {S : World -> Prop} {L : Nat} {Q : Exit -> Act -> World -> Prop} {f : Nat} {l : Array Bool} {a : Act} {w : World} {oi : Oper} {X : Prop} (i : Nat) (v : Value) (hi : ops[i]? = some oi) (hy : ∀ w, S w -> (execOp a.eval oi).run P w = .ok (.value v) w) (hS : S w) (h : X) (hL : ops[L]? = none := by rfl)
  (h4 : ((Region.noSelect ops && Region.free md ops l i && (Region.ready md ops l).contains i) && Region.wanted oi (yielded ops a.tmps)) = true := by kernel_rfl) (hn : (wpAnyL P md ops (NoPanic Q) S L f (l.setIfInBounds i true) (a.put oi.dst v) w) = X := by (simp only [nH, pu, nB, nC, nD]; rfl)) : wpAnyL P md ops (NoPanic Q) S L (f + 1) l a w := by
 have h5 := Bool.and_eq_true_iff.1 h4
 subst hn
 exact tS hi hL h5.1 h5.2 hy hS h
theorem tU {P : Program} {ops : Array Oper} {md : Region.Mode} {S : World -> Prop} {L : Nat} {Q : Exit -> Act -> World -> Prop} {f : Nat} {l : Array Bool} {a : Act} {w : World} {oi oL : Oper} {X : Prop} (i : Nat) (v : Value) (hi : ops[i]? = some oi) (hy : ∀ w, S w -> (execOp a.eval oi).run P w = .ok (.value v) w) (hS : S w) (h : X) (hL : ops[L]? = some oL := by rfl)
  (h4 : ((oL.after.any (fun e => Region.binds md e && e.on == i) && Region.noSelect ops && Region.free md ops l i && (Region.ready md ops l).contains i) && Region.wanted oi (yielded ops a.tmps)) = true := by kernel_rfl) (hn : (wpAnyL P md ops (NoPanic Q) S L f (l.setIfInBounds i true) (a.put oi.dst v) w) = X := by (simp only [nH, pu, nB, nC, nD]; rfl)) : wpAnyL P md ops (NoPanic Q) S L (f + 1) l a w := by
 have h5 := Bool.and_eq_true_iff.1 h4
 subst hn
 exact tL hi hL h5.1 h5.2 hy hS h
theorem tO {P : Program} {ops : Array Oper} {md : Region.Mode} {S : World -> Prop} {L : Nat} {Q : Exit -> Act -> World -> Prop} {f : Nat} {l : Array Bool} {a : Act} {w : World} {o : Oper} {X : Prop} (j : Nat) (h : X) (hr : Region.ready md ops l = [j] := by kernel_rfl) (ho : ops[j]? = some o := by rfl) (hw : Region.wanted o (yielded ops a.tmps) = true := by rfl)
  (hn : (Oper.wp P o a w (fun a' w' => S w' /\ wpAnyL P md ops Q S L f (l.setIfInBounds j true) a' w') Q) = X := by (simp only [nH, pu, nB, nC, nD]; rfl)) : wpAnyL P md ops Q S L (f + 1) l a w := by
 subst hn
 exact x01 hr ho hw h
theorem tZ {P : Program} {ops : Array Oper} {md : Region.Mode} {S : World -> Prop} {L : Nat} {Q : Exit -> Act -> World -> Prop} {f : Nat} {l : Array Bool} {a : Act} {w : World} {o : Oper} {X : Prop} (h : X) (hr : Region.ready md ops l = [L] := by kernel_rfl) (ho : ops[L]? = some o := by rfl) (hw : Region.wanted o (yielded ops a.tmps) = true := by rfl) (hd : Region.ready md ops (l.setIfInBounds L true) = [] := by kernel_rfl)
  (hn : (Oper.wp P o a w (fun a' w' => Q .normal a' w') Q) = X := by (simp only [nH, pu, nB, nC, nD]; rfl)) : wpAnyL P md ops Q S L (f + 1) l a w := by
 subst hn
 exact x1Y hr ho hw hd h
theorem tE {P : Program} {ops : Array Oper} {md : Region.Mode} {S : World -> Prop} {L : Nat} {Q : Exit -> Act -> World -> Prop} {f : Nat} {l : Array Bool} {a : Act} {w : World} (h : Q .normal a w) (hr : Region.ready md ops l = [] := by kernel_rfl) : wpAnyL P md ops (NoPanic Q) S L f l a w := x0W hr (NoPanic.normal h)
variable {P : Program} {ops : Array Oper} {op : Oper} {a : Act} {w w' w0 : World} {Q : Exit -> Act -> World -> Prop} {B g gr k m n r : Nat} {F bs : LN} {t : TypeId} {A : OA} {d : DM}
section
open Go.RowKit Go.Shelf
attribute [local go_sem] Oper.semAt_some
theorem x38 (W : World) (tmps : Array Value) (bs be : Nat) (s : Sec) (e : Value) (h4 : tmps.getD 4 undef = .pointer (some ⟨bs, 0, none⟩)) (h5 : tmps.getD 5 undef = .pointer (some ⟨be, 0, none⟩))
 (h1 : Blk W bs 66 s.cs.toArray) (h2 : Boxed W be 28 e) : (results Tryz.f216 tmps).run prog W = .ok (.tuple #[s.v, e]) W := by
 have hl := run_loadVar_row (P := prog) W bs 66 66 s.cs.toArray (0, 0) _ h1 underlying66 rfl (by rw [size_toArray, s.cs_len]; exact x0X)
 have hc := h2.cell
 have hr : Tryz.f216.results = #[.cell 4 66, .cell 5 28] := rfl
 have h4' : tmps[4]?.getD undef = .pointer (some ⟨bs, 0, none⟩) := by simpa using h4
 have h5' : tmps[5]?.getD undef = .pointer (some ⟨be, 0, none⟩) := by simpa using h5
 unfold results
 rw [hr]
 have hv : (loadVar 28 ⟨be, 0, none⟩).run prog W = .ok e W := by simp [go_sem, hc]
 simp [h4', h5', asAddr, hl, hv, Sec.v]
theorem xOF (w : World) (base g gm : Nat) (v : Value) (d : DM) (i : Int) (h : Lies w base g gm v d) (hw : d.wait.length <= 1000000) (hd : d.has i = true) (hg : d.gone = false) :
  CallsIn Fence.wide 5 prog 216 #[.pointer (some ⟨g, 0, none⟩), .int .i64 i] w fun e w' => e = .returned (.tuple #[(d.read i).v, errV (d.readErr i)]) /\ Below w.heap.size w w' := by
 have hro : Fence.wide.round = none := rfl
 have h1 : 1 <= 5 := by omega
 have Hd := kH hd
 have Hg := kH hg
 have H := kH h
 clear hd hg h
 refine callsIn_of_wp_marks func216 rfl trivial ?_ hro
 simp only [ntmps216, size_toArray, length_cons, length_nil, Nat.reduceAdd, Nat.reduceSub, Array.replicate_succ, Array.replicate_zero, push_toArray, append_toArray, nil_append, cons_append]
 obtain ⟨Zs, hZ⟩ : ∃ Zs : Array Value, ∀ w, (zeroValue 66).run prog w = .ok (.agg Zs) w := ⟨_, x0P⟩
 have hrow := H.out.row
 obtain ⟨A, cap, rfl⟩ : ∃ A cap, v = .slice A d.wait.length cap := by
  rcases hrow.2 with ⟨rfl, hn⟩ | ⟨g', cap, cur, rfl, _⟩
  ·rw [hn]; exact ⟨_, _, rfl⟩
  ·exact ⟨_, _, rfl⟩
 have Hrow := kH hrow
 clear hrow
 have hgs := H.out.blk.lt
 obtain ⟨-, -, -, -, -, -, c6, -⟩ := H.out.cells
 have c6' : ∀ o1 o2 o3, (((w.alloc o1).alloc o2).alloc o3).cell? ⟨g, 6, none⟩ = some (.slice A d.wait.length cap) := fun o1 o2 o3 => by
  rw [((((H.out.alloc o1).alloc o2).alloc o3)).blk.cell]; rfl
 have HD := kH (fun W (hL : Lies W base g gm (.slice A d.wait.length cap) d) => x91 W base g gm _ d hL)
 have HH := kH (fun W (hL : Lies W base g gm (.slice A d.wait.length cap) d) => x5A W base g gm _ d i hL)
 gi_wp2_with (first
  | (refine ⟨trivial, ?_⟩; gi_at_call 255; refine (callsIn_wide.2 (HD.out _ (((H.out.alloc _).alloc _).alloc _))).mono ?_; rintro e w' ⟨rfl, rfl⟩; rw [Hg.out])
  | (refine ⟨trivial, ?_⟩; gi_at_call 243; refine (callsIn_wide.2 (HH.out _ (((H.out.alloc _).alloc _).alloc _))).mono ?_; rintro e w' ⟨rfl, rfl⟩; rw [Hd.out])
  | (refine ⟨trivial, ?_⟩; gi_at_call 256; refine (callsIn_wide.2 (xCY _ _ _ _)).mono ?_; rintro e w' ⟨rfl, rfl⟩))
 have hbi : Boxed ((((w.alloc (.cells #[.int .i64 i] 3)).alloc (.cells Zs 66)).alloc (.cells #[.nilIface] 28)).alloc (.cells #[.slice A d.wait.length cap] 104)) w.heap.size 3 (.int .i64 i) := (((Boxed.new w _ _).alloc _).alloc _).alloc _
 have hbs : Blk ((((w.alloc (.cells #[.int .i64 i] 3)).alloc (.cells Zs 66)).alloc (.cells #[.nilIface] 28)).alloc (.cells #[.slice A d.wait.length cap] 104)) (w.heap.size + 1) 66 Zs := by
  have := ((kW (w.alloc (.cells #[.int .i64 i] 3)) 66 Zs).alloc (.cells #[.nilIface] 28)).alloc (.cells #[.slice A d.wait.length cap] 104)
  simpa using this
 have hbe : Boxed ((((w.alloc (.cells #[.int .i64 i] 3)).alloc (.cells Zs 66)).alloc (.cells #[.nilIface] 28)).alloc (.cells #[.slice A d.wait.length cap] 104)) (w.heap.size + 1 + 1) 28 .nilIface := by
  have := (Boxed.new ((w.alloc (.cells #[.int .i64 i] 3)).alloc (.cells Zs 66)) 28 .nilIface).alloc (.cells #[.slice A d.wait.length cap] 104)
  simpa using this
 have hbn : Boxed ((((w.alloc (.cells #[.int .i64 i] 3)).alloc (.cells Zs 66)).alloc (.cells #[.nilIface] 28)).alloc (.cells #[.slice A d.wait.length cap] 104)) (w.heap.size + 1 + 1 + 1) 104 (.slice A d.wait.length cap) := by
  have := Boxed.new (((w.alloc (.cells #[.int .i64 i] 3)).alloc (.cells Zs 66)).alloc (.cells #[.nilIface] 28)) 104 (.slice A d.wait.length cap)
  simpa using this
 have hB0 : Below w.heap.size w ((((w.alloc (.cells #[.int .i64 i] 3)).alloc (.cells Zs 66)).alloc (.cells #[.nilIface] 28)).alloc (.cells #[.slice A d.wait.length cap] 104)) := ((((kB _ w).alloc (kR _) _).alloc (by simp) _).alloc (by simp; omega) _).alloc (by simp; omega) _
 have hsz : ((((w.alloc (.cells #[.int .i64 i] 3)).alloc (.cells Zs 66)).alloc (.cells #[.nilIface] 28)).alloc (.cells #[.slice A d.wait.length cap] 104)).heap.size = w.heap.size + 4 := by simp
 obtain ⟨W0, hW0⟩ : ∃ W0, ((((w.alloc (.cells #[.int .i64 i] 3)).alloc (.cells Zs 66)).alloc (.cells #[.nilIface] 28)).alloc (.cells #[.slice A d.wait.length cap] 104)) = W0 := ⟨_, rfl⟩
 rw [hW0] at hbi hbs hbe hbn hB0 hsz ⊢
 clear hW0
 have hZs : Zs.size = 128 := by
  have h1 := hZ w
  have h2 := x0P w
  rw [h1] at h2
  injection h2 with h2
  injection h2 with h2
  rw [h2]
  simp [Sec.cs_len]
 have hrl : ∀ k, k ∈ rowOf (.slice A d.wait.length cap) -> k < w.heap.size := fun k hk => x02 Hrow.out k hk
 refine wpIn_rangeFunc_ownH hro h1 (gf := 281) (lb := #[.pointer (some ⟨w.heap.size + 1 + 1 + 1, 0, none⟩)]) rfl trivial (enters_of func281 (by kernel_rfl) rfl)
  (xH4 Fence.wide 4 (fun _ => trivial) hro (by omega) (w.heap.size + 1 + 1 + 1) W0.heap.size base A cap d.wait hw W0 (by omega) (kR _) hbn.cell (x06 Hrow.out (fun k hk => hB0.block k (hrl k hk))) (fun k hk => by have := hrl k hk; omega)) belowK_t (belowK_b (kR _)) (kB _ _) (fun _ => rfl)
  (fun pre W => (((∀ p ∈ pre, p.2.1 ≠ i) /\ Boxed W w.heap.size 3 (.int .i64 i)) /\ (Blk W (w.heap.size + 1) 66 Zs /\ (Boxed W (w.heap.size + 1 + 1) 28 .nilIface /\ Boxed W (w.heap.size + 1 + 1 + 1) 104 (.slice A d.wait.length cap)))) /\ Below w.heap.size w W)
  (fun c pre W => ((c = .ret /\ ∃ ini last, pre = ini ++ [last] /\ (∀ p ∈ ini, p.2.1 ≠ i) /\ last.2.1 = i /\ Blk W (w.heap.size + 1) 66 last.2.2.cs.toArray) /\ Boxed W (w.heap.size + 1 + 1) 28 .nilIface) /\ Below w.heap.size w W)
  ?own1 ?own2 ⟨⟨⟨by simp, hbi⟩, hbs, hbe, hbn⟩, hB0⟩
  (fun x a' W => ∃ Bx, W0.heap.size <= Bx /\ Blk W Bx 208 (wrc x.2).toArray /\ a' = { tmps := #[.pointer (some ⟨g, 0, none⟩), .int .i64 i, undef, .pointer (some ⟨w.heap.size, 0, none⟩), .pointer (some ⟨w.heap.size + 1, 0, none⟩), .pointer (some ⟨w.heap.size + 1 + 1, 0, none⟩), undef, .pointer (some ⟨Bx, 0, none⟩), .pointer (some ⟨g, 0, none⟩), .bool false, undef, undef, .pointer (some ⟨g, 0, none⟩), .int .i64 i, .bool true, .bool false, undef, undef, .pointer (some ⟨g, 0, none⟩), .pointer (some ⟨g, 0, none⟩), .pointer (some ⟨g, 6, none⟩), .slice A d.wait.length cap, .func (.func 281) #[] #[.pointer (some ⟨w.heap.size + 1 + 1 + 1, 0, none⟩)], .int .i64 (x.1 : Int), .agg (wrc x.2).toArray, undef, undef, undef, undef, undef, undef, undef, undef, undef, undef, undef, undef], defers := [] })
  ?own3 ?assign ?body ?done ?stop
 case own1 =>
  refine OwnFrom.and (OwnFrom.and (OwnFrom.and (ownFrom_pure _ _) (Own.from (boxed_own _ _ _) _)) (OwnFrom.and (fun s W W' row hs hg hr => Blk.of hs (hg.block _ (Blk.lt hs) (fun e => ?_))) (OwnFrom.and (Own.from (boxed_own _ _ _) _) (Own.from (boxed_own _ _ _) _)))) (ownFrom_below (kR _) (by omega))
  have := (hr _ e.symm).1
  omega
 case own2 =>
  intro c
  refine OwnFrom.and (OwnFrom.and (fun s W W' row hs hg hr => ?_) (Own.from (boxed_own _ _ _) _)) (ownFrom_below (kR _) (by omega))
  obtain ⟨hc, ini, last, e1, e2, e3, e4⟩ := hs
  refine ⟨hc, ini, last, e1, e2, e3, e4.of (hg.block _ e4.lt (fun e => ?_))⟩
  have := (hr _ e.symm).1
  omega
 case own3 =>
  intro x a' s W W' row hs hg hr
  obtain ⟨Bx, g1, g2, g3⟩ := hs
  refine ⟨Bx, g1, g2.of (hg.block _ g2.lt (fun e => ?_)), g3⟩
  obtain ⟨_, o, ho, hc⟩ := hr _ e.symm
  unfold Blk at g2
  rw [g2] at ho
  cases ho
  cases hc
 case assign =>
  rintro l pre x W K ⟨⟨⟨hp, b1⟩, b2, b3, b4⟩, hB⟩ hK
  obtain ⟨Z, hZ1, hZ2⟩ := x6L
  have hi : (prog.info? 208).map (·.size) = some (wrc x.2).length := by rw [x2D]; exact x6B
  have HK := kH hK
  have Hp := kH hp
  clear hK hp
  unfold encB
  gi_wp2_with (refine x7H rfl 208 (.tmp 7) (.tmp 24) rfl (wrc x.2) Z rfl rfl hi (by rw [hZ2, x2D]) (xDQ x.2) ?_)
  have hws : W0.heap.size <= W.heap.size := by have := b4.lt; omega
  exact HK.out _ _ ((KeepsOthers.alloc _ _).from _) ((kB _ W).alloc hws _) ⟨⟨⟨Hp.out, b1.alloc _⟩, b2.alloc _, b3.alloc _, b4.alloc _⟩, hB.alloc hB.size _⟩ ⟨W.heap.size, hws, kW W _ _, rfl⟩
 case body =>
  rintro l pre x a' W hl - ⟨⟨⟨hp, b1⟩, b2, b3, b4⟩, hB⟩ ⟨Bx, hBx, bX, rfl⟩ hlt
  have c1 := b1.cell
  have c3 := b3.cell
  have f3 := b3.frozen
  have cat : W.cell? ⟨Bx, 128, none⟩ = some (.int .i64 x.2.1) := by
   rw [bX.cell]
   simp [wrc, x.2.2.cs_len]
  have rat : W.rangeAt Bx 0 x.2.2.cs := fun j u hj => by
   rw [Nat.zero_add, bX.cell]
   have : j < x.2.2.cs.length := (List.getElem?_eq_some_iff.1 hj).1
   simp only [wrc, List.getElem?_toArray]
   rw [List.getElem?_append_left this]
   exact hj
  have hu := underlying66
  have hi : (prog.info? 66).map (·.size) = some x.2.2.cs.length := by rw [x.2.2.cs_len]; exact x0X
  have hia : (prog.info? 66).map (·.size) = some x.2.2.cs.toArray.size := by rw [size_toArray]; exact hi
  have hth : W.there (w.heap.size + 1) 0 x.2.2.cs.toArray.size := b2.there (by simp [x.2.2.cs_len, hZs])
  have hsg := (x0F (w.heap.size + 1) x.2.2.cs 0 W)
  have ce : (W.setCells (w.heap.size + 1) 0 x.2.2.cs).cell? ⟨w.heap.size + 1 + 1, 0, none⟩ = some .nilIface := (hsg.1.cell_far _ b3.lt (by simp)).trans c3
  have fe : (W.setCells (w.heap.size + 1) 0 x.2.2.cs).frozen? ⟨w.heap.size + 1 + 1, 0, none⟩ = false := (World.frozen?_setCells _ _ _ _ _).trans f3
  have Hp := kH hp
  have Hsg := kH hsg
  have Hia := kH hi
  clear hp hsg
  by_cases hm : x.2.1 = i
  ·have hmb : (x.2.1 == i) = true := by simpa using hm
   have Hm := kH hm
   clear hm
   gi_wp2_with (first
    | (refine x3O rfl 66 (.tmp 29) rfl Bx 0 rfl x.2.2.cs _ rat hu rfl hi ?_)
    | (refine x2C rfl 66 (.tmp 4) (.tmp 30) rfl (w.heap.size + 1) 0 x.2.2.cs.toArray rfl rfl hth hia (all_oneCell_toArray x.2.2.one) ?_))
   have hk1 : KeepsFrom W0.heap.size W (W.setCells (w.heap.size + 1) 0 x.2.2.cs) := KeepsFrom.of_grownBy Hsg.out.1 (fun j e => by injection e with e; omega)
   refine ⟨hk1.trans ((KeepsOthers.setCell _ _ _).from _), ⟨⟨rfl, pre, x, rfl, Hp.out, Hm.out, ?_⟩, ?_⟩, ?_⟩
   ·exact (b2.over x.2.2.cs (by rw [x.2.2.cs_len, hZs])).far (by simp) _
   ·exact (b3.kept Hsg.out.1 (by simp)).set _
   ·exact (hB.grown Hsg.out.1 hB.size (fun k e => by injection e with e; omega)).setCell (p := ⟨w.heap.size + 1 + 1, 0, none⟩) (by show _ <= w.heap.size + 1 + 1; omega) _
  ·have hmb : (x.2.1 == i) = false := by simpa using hm
   have Hm := kH hm
   clear hm
   gi_wp2
   refine ⟨KeepsFrom.refl _ _, kB _ _, ⟨⟨fun p hp' => ?_, b1⟩, b2, b3, b4⟩, hB⟩
   rcases mem_append.1 hp' with h | h
   ·exact Hp.out p h
   ·obtain rfl := mem_singleton.1 h
    exact Hm.out
 case done =>
  rintro D ys W hD rfl ⟨⟨⟨hp, b1⟩, b2, b3, b4⟩, hB⟩ hK
  have hL := H.out.below hB
  obtain ⟨-, -, -, -, -, k5, -, -⟩ := hL.cells
  obtain ⟨f0, hm0, hf0⟩ := hL.map
  have lk : ∀ W', MapAt W' gm f0 -> (Instr.lookup 101 (.map (some gm)) (.int .i64 i) false).run prog W' = .ok (.agg (d.sure i).cs.toArray) W' := fun W' h => by
   rw [x5D underlying101 underlying3 x0P h, hf0]; rfl
  have c1 := b1.cell
  have c3 := b3.cell
  have f3 := b3.frozen
  have hgs2 := hL.blk.lt
  have hgm2 := hm0.lt
  have hmw : gm < w.heap.size := by
   have := H.out.under
   exact this gm (by simp)
  have hu := underlying66
  have hi : (prog.info? 66).map (·.size) = some (d.sure i).cs.length := by rw [(d.sure i).cs_len]; exact x0X
  have hcl := (d.sure i).cs_len
  have hone := (d.sure i).one
  have hth : W.there (w.heap.size + 1) 0 128 := b2.there (by omega)
  have hsg := (x0F (w.heap.size + 1) (d.sure i).cs 0 W.drew)
  have sB : (W.drew.setCells (w.heap.size + 1) 0 (d.sure i).cs).cell? ⟨g, 5, none⟩ = some (.map (some gm)) /\ (W.drew.setCells (w.heap.size + 1) 0 (d.sure i).cs).cell? ⟨w.heap.size, 0, none⟩ = some (.int .i64 i) /\ (Instr.lookup 101 (.map (some gm)) (.int .i64 i) false).run prog (W.drew.setCells (w.heap.size + 1) 0 (d.sure i).cs) = .ok (.agg (d.sure i).cs.toArray) (W.drew.setCells (w.heap.size + 1) 0 (d.sure i).cs) /\ (W.drew.setCells (w.heap.size + 1) 0 (d.sure i).cs).there (w.heap.size + 1) 0 128 /\ (W.drew.setCells (w.heap.size + 1) 0 (d.sure i).cs).cell? ⟨w.heap.size + 1 + 1, 0, none⟩ = some .nilIface /\ (W.drew.setCells (w.heap.size + 1) 0 (d.sure i).cs).frozen? ⟨w.heap.size + 1 + 1, 0, none⟩ = false :=
   ⟨(hsg.1.cell_far ⟨g, 5, none⟩ hgs2 (by simp; omega)).trans k5, (hsg.1.cell_far ⟨w.heap.size, 0, none⟩ b1.lt (by simp)).trans c1, lk _ (hm0.of (hsg.1.block gm hgm2 (by simp; omega))), World.there_setCells (w := W.drew) hth _ _ _, (hsg.1.cell_far ⟨w.heap.size + 1 + 1, 0, none⟩ b3.lt (by simp)).trans c3, (World.frozen?_setCells _ _ _ _ _).trans f3⟩
  have hb4 : Blk (W.drew.setCells (w.heap.size + 1) 0 (d.sure i).cs) (w.heap.size + 1) 66 (d.sure i).cs.toArray := (b2.drew).over _ (by rw [hcl, hZs])
  have hm4 : MapAt (W.drew.setCells (w.heap.size + 1) 0 (d.sure i).cs) gm f0 := hm0.of (hsg.1.block gm hgm2 (by simp; omega))
  have hB4 : Below w.heap.size w (W.drew.setCells (w.heap.size + 1) 0 (d.sure i).cs) := (hB.drew).grown hsg.1 hB.size (fun k e => by injection e with e; omega)
  have hK4 : (W.drew.setCells (w.heap.size + 1) 0 (d.sure i).cs).heap[D]? = some (.deferred (some [])) := (hsg.1.block D ((Array.getElem?_eq_some_iff.1 hK).1) (by simp; omega)).trans hK
  have hs4 := hsg.2
  have hbe4 := (show Boxed W.drew _ _ _ from b3).kept hsg.1 (by simp)
  obtain ⟨W4, hW4⟩ : ∃ W4, W.drew.setCells (w.heap.size + 1) 0 (d.sure i).cs = W4 := ⟨_, rfl⟩
  rw [hW4] at sB hb4 hm4 hB4 hK4 hs4 hbe4
  obtain ⟨s1, s2, s3, s4, s5, s6⟩ := sB
  have sC : (W4.setCell ⟨w.heap.size + 1 + 1, 0, none⟩ .nilIface).cell? ⟨g, 5, none⟩ = some (.map (some gm)) /\ (W4.setCell ⟨w.heap.size + 1 + 1, 0, none⟩ .nilIface).cell? ⟨w.heap.size, 0, none⟩ = some (.int .i64 i) /\ (Instr.lookup 101 (.map (some gm)) (.int .i64 i) false).run prog (W4.setCell ⟨w.heap.size + 1 + 1, 0, none⟩ .nilIface) = .ok (.agg (d.sure i).cs.toArray) (W4.setCell ⟨w.heap.size + 1 + 1, 0, none⟩ .nilIface) /\ (W4.setCell ⟨w.heap.size + 1 + 1, 0, none⟩ .nilIface).there (w.heap.size + 1) 0 128 /\ (W4.setCell ⟨w.heap.size + 1 + 1, 0, none⟩ .nilIface).cell? ⟨w.heap.size + 1 + 1, 0, none⟩ = some .nilIface /\ (W4.setCell ⟨w.heap.size + 1 + 1, 0, none⟩ .nilIface).frozen? ⟨w.heap.size + 1 + 1, 0, none⟩ = false :=
   ⟨(World.cell?_setCell_other _ _ _ _ (fun e => by injection e with e; omega)).trans s1, (World.cell?_setCell_other _ _ _ _ (by simp)).trans s2, lk _ (hm4.of (kE _ _ _ _ (by show gm ≠ w.heap.size + 1 + 1; omega))), (hb4.far (by simp) _).there (by simp [hcl]), World.cell?_setCell_same' _ _ _ (by rw [s5]; rfl), by rw [World.frozen?_setCell]; exact s6⟩
  have hb5 : Blk (W4.setCell ⟨w.heap.size + 1 + 1, 0, none⟩ .nilIface) (w.heap.size + 1) 66 (d.sure i).cs.toArray := hb4.far (by simp) _
  have c5 : (W4.setCell ⟨w.heap.size + 1 + 1, 0, none⟩ .nilIface).cell? ⟨w.heap.size + 1 + 1, 0, none⟩ = some .nilIface := sC.2.2.2.2.1
  have hB5 : Below w.heap.size w (W4.setCell ⟨w.heap.size + 1 + 1, 0, none⟩ .nilIface) := hB4.setCell (p := ⟨w.heap.size + 1 + 1, 0, none⟩) (by show _ <= w.heap.size + 1 + 1; omega) _
  have hK5 : (W4.setCell ⟨w.heap.size + 1 + 1, 0, none⟩ .nilIface).heap[D]? = some (.deferred (some [])) := (kE _ _ _ _ (by show D ≠ w.heap.size + 1 + 1; omega)).trans hK4
  have hread : d.read i = d.sure i := by
   unfold DM.read
   rw [Hg.out, Hd.out, xJT d.wait i hp]
   rfl
  have herr : d.readErr i = 0 := by unfold DM.readErr; rw [Hg.out, Hd.out]; rfl
  have Hbx := kH (show Boxed (W4.setCell ⟨w.heap.size + 1 + 1, 0, none⟩ .nilIface) (w.heap.size + 1 + 1) 28 .nilIface from ((show Boxed W4 (w.heap.size + 1 + 1) 28 .nilIface from hbe4).set _))
  have SA := kH (⟨k5, c1, lk _ hm0, hth, c3, f3⟩ : W.drew.cell? ⟨g, 5, none⟩ = some (.map (some gm)) /\ W.drew.cell? ⟨w.heap.size, 0, none⟩ = some (.int .i64 i) /\ (Instr.lookup 101 (.map (some gm)) (.int .i64 i) false).run prog W.drew = .ok (.agg (d.sure i).cs.toArray) W.drew /\ W.drew.there (w.heap.size + 1) 0 128 /\ W.drew.cell? ⟨w.heap.size + 1 + 1, 0, none⟩ = some .nilIface /\ W.drew.frozen? ⟨w.heap.size + 1 + 1, 0, none⟩ = false)
  have SB := kH (⟨s1, s2, s3, s4, s5, s6⟩ : W4.cell? ⟨g, 5, none⟩ = some (.map (some gm)) /\ W4.cell? ⟨w.heap.size, 0, none⟩ = some (.int .i64 i) /\ (Instr.lookup 101 (.map (some gm)) (.int .i64 i) false).run prog W4 = .ok (.agg (d.sure i).cs.toArray) W4 /\ W4.there (w.heap.size + 1) 0 128 /\ W4.cell? ⟨w.heap.size + 1 + 1, 0, none⟩ = some .nilIface /\ W4.frozen? ⟨w.heap.size + 1 + 1, 0, none⟩ = false)
  rw [<- hW4] at SB
  have SC := kH sC
  rw [<- hW4] at SC hb5 c5 hB5 hK5 Hbx
  have HW4 := kH hW4
  have Hread := kH hread
  have Herr := kH herr
  clear lk hf0 hL hp hsg hK sC hread herr hW4 s1 s2 s3 s4 s5 s6 hm4 hb4 hB4 hK4 hs4 hbe4 c1 c3 f3 k5 hth
  gi_wp2
  refine wpIn_wide.2 ?_
  go_region_held3 (fun w' => w'.cell? ⟨g, 5, none⟩ = some (.map (some gm)) /\ w'.cell? ⟨w.heap.size, 0, none⟩ = some (.int .i64 i) /\ (Instr.lookup 101 (.map (some gm)) (.int .i64 i) false).run prog w' = .ok (.agg (d.sure i).cs.toArray) w' /\ w'.there (w.heap.size + 1) 0 128 /\ w'.cell? ⟨w.heap.size + 1 + 1, 0, none⟩ = some .nilIface /\ w'.frozen? ⟨w.heap.size + 1 + 1, 0, none⟩ = false)
   (first | exact SA.out | exact SB.out | exact SC.out)
   (fail)
  gi_wp2
  refine ⟨by simp, .inl ⟨_, _, rfl, run_takeDeferred hK5, ?_⟩⟩
  have hkp := grownBy_putObj' ((W.drew.setCells (w.heap.size + 1) 0 (d.sure i).cs).setCell ⟨w.heap.size + 1 + 1, 0, none⟩ .nilIface) D (.deferred none)
  refine ⟨_, x38 _ _ (w.heap.size + 1) (w.heap.size + 1 + 1) (d.sure i) .nilIface rfl rfl (hb5.of (hkp.block _ hb5.lt (by simp; omega))) ?_, ?_, ?_⟩
  ·have hbx : Boxed ((W.drew.setCells (w.heap.size + 1) 0 (d.sure i).cs).setCell ⟨w.heap.size + 1 + 1, 0, none⟩ .nilIface) (w.heap.size + 1 + 1) 28 .nilIface := Hbx.out
   exact hbx.kept hkp (by simp; omega)
  ·rw [Hread.out, Herr.out]; rfl
  ·exact hB5.trans (belowK_b (w := w) (kR _) _ D _ _ (by omega) hK5 rfl rfl)
 case stop =>
  rintro D c pre W hD ⟨k, hk, rfl⟩ ⟨⟨⟨rfl, ini, last, e1, e2, e3, e4⟩, b3⟩, hB⟩ hK
  have hread : d.read i = last.2.2 := by
   unfold DM.read
   rw [Hg.out, Hd.out, xKY d.wait i k hk ini last e1 e2 e3]
   rfl
  have herr : d.readErr i = 0 := by unfold DM.readErr; rw [Hg.out, Hd.out]; rfl
  have Hread := kH hread
  have Herr := kH herr
  have HK := kH hK
  clear hread herr hK e1 e2 e3
  gi_wp2
  refine ⟨by simp, .inl ⟨_, _, rfl, run_takeDeferred HK.out, ?_⟩⟩
  have hkp := grownBy_putObj' W D (.deferred none)
  refine ⟨_, x38 _ _ (w.heap.size + 1) (w.heap.size + 1 + 1) last.2.2 .nilIface rfl rfl (e4.of (hkp.block _ e4.lt (by simp; omega))) (b3.kept hkp (by simp; omega)), ?_, ?_⟩
  ·rw [Hread.out, Herr.out]; rfl
  ·exact hB.trans (belowK_b (w := w) (kR _) _ D _ _ (by omega) HK.out rfl rfl)
theorem xJO (w : World) (base g gm : Nat) (v : Value) (d : DM) (i : Int) (h : Lies w base g gm v d) (hg : d.gone = true) :
  CallsIn Fence.wide 5 prog 216 #[.pointer (some ⟨g, 0, none⟩), .int .i64 i] w fun e w' => e = .returned (.tuple #[(d.read i).v, errV (d.readErr i)]) /\ Below w.heap.size w w' := by
 have hro : Fence.wide.round = none := rfl
 have h1 : 1 <= 5 := by omega
 have Hg := kH hg
 have H := kH h
 clear hg h
 refine callsIn_of_wp_marks func216 rfl trivial ?_ hro
 simp only [ntmps216, size_toArray, length_cons, length_nil, Nat.reduceAdd, Nat.reduceSub, Array.replicate_succ, Array.replicate_zero, push_toArray, append_toArray, nil_append, cons_append]
 obtain ⟨Zs, hZ, hZb⟩ : ∃ Zs : List Value, (∀ w, (zeroValue 66).run prog w = .ok (.agg Zs.toArray) w) /\ Zs = Sec.zero.cs := ⟨_, x0P, rfl⟩
 have hbl : Blk (((w.alloc (.cells #[.int .i64 i] 3)).alloc (.cells Zs.toArray 66)).alloc (.cells #[.nilIface] 28)) (w.heap.size + 1) 66 Zs.toArray := by
  have := (kW (w.alloc (.cells #[.int .i64 i] 3)) 66 Zs.toArray).alloc (.cells #[.nilIface] 28)
  simpa using this
 have hbe : Boxed (((w.alloc (.cells #[.int .i64 i] 3)).alloc (.cells Zs.toArray 66)).alloc (.cells #[.nilIface] 28)) (w.heap.size + 1 + 1) 28 .nilIface := by
  have := Boxed.new ((w.alloc (.cells #[.int .i64 i] 3)).alloc (.cells Zs.toArray 66)) 28 .nilIface
  simpa using this
 have hlen : Zs.length = 128 := by rw [hZb, Sec.cs_len]
 have hia : (prog.info? 66).map (·.size) = some Zs.toArray.size := by rw [size_toArray, hlen]; exact x0X
 have hth := hbl.there (o := 0) (n := Zs.toArray.size) (by simp)
 have hone : ∀ u ∈ Zs, u.oneCell' = true := by rw [hZb]; exact Sec.zero.one
 have hsg := x0F (w.heap.size + 1) Zs 0 (((w.alloc (.cells #[.int .i64 i] 3)).alloc (.cells Zs.toArray 66)).alloc (.cells #[.nilIface] 28))
 have hbe2 := hbe.kept hsg.1 (by simp)
 have hbl2 := hbl.over Zs (by simp)
 have hB2 : Below w.heap.size w ((((w.alloc (.cells #[.int .i64 i] 3)).alloc (.cells Zs.toArray 66)).alloc (.cells #[.nilIface] 28)).setCells (w.heap.size + 1) 0 Zs) :=
  ((((kB _ w).alloc (kR _) _).alloc (by simp) _).alloc (by simp; omega) _).grown hsg.1 (by simp; omega) (fun k e => by injection e with e; omega)
 have c3 := hbe2.cell
 have f3 := hbe2.frozen
 have HZb := kH hZb
 have Hsg := kH hsg
 have Hbe2 := kH hbe2
 clear hZb hsg hbe2
 gi_wp2_with (first
  | (refine ⟨trivial, ?_⟩; gi_at_call 255; refine (callsIn_wide.2 (x91 _ base g gm v d (((H.out.alloc _).alloc _).alloc _))).mono ?_; rintro e w' ⟨rfl, rfl⟩; rw [Hg.out])
  | (refine x2C rfl 66 (.tmp 4) (.tmp 10) rfl (w.heap.size + 1) 0 Zs.toArray rfl rfl hth hia (all_oneCell_toArray hone) ?_))
 refine ⟨_, x38 _ _ (w.heap.size + 1) (w.heap.size + 1 + 1) Sec.zero (errV 3) rfl rfl ?_ (Hbe2.out.set _), ?_, ?_⟩
 ·rw [<- HZb.out]; exact hbl2.far (by simp) _
 ·have hread : d.read i = Sec.zero := by unfold DM.read; rw [Hg.out]; rfl
  have herr : d.readErr i = 3 := by unfold DM.readErr; rw [Hg.out]; rfl
  rw [hread, herr]
 ·exact hB2.setCell (p := ⟨w.heap.size + 1 + 1, 0, none⟩) (by show _ <= w.heap.size + 1 + 1; omega) _
theorem xGU (w : World) (base g gm : Nat) (v : Value) (d : DM) (i : Int) (h : Lies w base g gm v d) (hg : d.gone = false) (hd : d.has i = false) :
  CallsIn Fence.wide 5 prog 216 #[.pointer (some ⟨g, 0, none⟩), .int .i64 i] w fun e w' => e = .returned (.tuple #[(d.read i).v, errV (d.readErr i)]) /\ Below w.heap.size w w' := by
 have hro : Fence.wide.round = none := rfl
 have h1 : 1 <= 5 := by omega
 have Hg := kH hg
 have Hd := kH hd
 have H := kH h
 clear hg hd h
 refine callsIn_of_wp_marks func216 rfl trivial ?_ hro
 simp only [ntmps216, size_toArray, length_cons, length_nil, Nat.reduceAdd, Nat.reduceSub, Array.replicate_succ, Array.replicate_zero, push_toArray, append_toArray, nil_append, cons_append]
 obtain ⟨Zs, hZ, hZb⟩ : ∃ Zs : List Value, (∀ w, (zeroValue 66).run prog w = .ok (.agg Zs.toArray) w) /\ Zs = Sec.zero.cs := ⟨_, x0P, rfl⟩
 have hbl : Blk (((w.alloc (.cells #[.int .i64 i] 3)).alloc (.cells Zs.toArray 66)).alloc (.cells #[.nilIface] 28)) (w.heap.size + 1) 66 Zs.toArray := by
  have := (kW (w.alloc (.cells #[.int .i64 i] 3)) 66 Zs.toArray).alloc (.cells #[.nilIface] 28)
  simpa using this
 have hbe : Boxed (((w.alloc (.cells #[.int .i64 i] 3)).alloc (.cells Zs.toArray 66)).alloc (.cells #[.nilIface] 28)) (w.heap.size + 1 + 1) 28 .nilIface := by
  have := Boxed.new ((w.alloc (.cells #[.int .i64 i] 3)).alloc (.cells Zs.toArray 66)) 28 .nilIface
  simpa using this
 have hlen : Zs.length = 128 := by rw [hZb, Sec.cs_len]
 have hia : (prog.info? 66).map (·.size) = some Zs.toArray.size := by rw [size_toArray, hlen]; exact x0X
 have hth := hbl.there (o := 0) (n := Zs.toArray.size) (by simp)
 have hone : ∀ u ∈ Zs, u.oneCell' = true := by rw [hZb]; exact Sec.zero.one
 have hsg := x0F (w.heap.size + 1) Zs 0 (((w.alloc (.cells #[.int .i64 i] 3)).alloc (.cells Zs.toArray 66)).alloc (.cells #[.nilIface] 28))
 have hbe2 := hbe.kept hsg.1 (by simp)
 have hbl2 := hbl.over Zs (by simp)
 have hB2 : Below w.heap.size w ((((w.alloc (.cells #[.int .i64 i] 3)).alloc (.cells Zs.toArray 66)).alloc (.cells #[.nilIface] 28)).setCells (w.heap.size + 1) 0 Zs) :=
  ((((kB _ w).alloc (kR _) _).alloc (by simp) _).alloc (by simp; omega) _).grown hsg.1 (by simp; omega) (fun k e => by injection e with e; omega)
 have c3 := hbe2.cell
 have f3 := hbe2.frozen
 have HZb := kH hZb
 have Hsg := kH hsg
 have Hbe2 := kH hbe2
 clear hZb hsg hbe2
 gi_wp2_with (first
  | (refine ⟨trivial, ?_⟩; gi_at_call 255; refine (callsIn_wide.2 (x91 _ base g gm v d (((H.out.alloc _).alloc _).alloc _))).mono ?_; rintro e w' ⟨rfl, rfl⟩; rw [Hg.out])
  | (refine ⟨trivial, ?_⟩; gi_at_call 243; refine (callsIn_wide.2 (x5A _ base g gm v d i (((H.out.alloc _).alloc _).alloc _))).mono ?_; rintro e w' ⟨rfl, rfl⟩; rw [Hd.out])
  | (refine x2C rfl 66 (.tmp 4) (.tmp 16) rfl (w.heap.size + 1) 0 Zs.toArray rfl rfl hth hia (all_oneCell_toArray hone) ?_))
 refine ⟨_, x38 _ _ (w.heap.size + 1) (w.heap.size + 1 + 1) Sec.zero (errV 1) rfl rfl ?_ (Hbe2.out.set _), ?_, ?_⟩
 ·rw [<- HZb.out]; exact hbl2.far (by simp) _
 ·have hread : d.read i = Sec.zero := by unfold DM.read; rw [Hg.out, Hd.out]; rfl
  have herr : d.readErr i = 1 := by unfold DM.readErr; rw [Hg.out, Hd.out]; rfl
  rw [hread, herr]
 ·exact hB2.setCell (p := ⟨w.heap.size + 1 + 1, 0, none⟩) (by show _ <= w.heap.size + 1 + 1; omega) _
theorem xMZ (w : World) (base g gm : Nat) (v : Value) (d : DM) (i : Int) (h : Lies w base g gm v d) (hw : d.wait.length <= 1000000) :
  Calls prog 216 #[.pointer (some ⟨g, 0, none⟩), .int .i64 i] w fun e w' => e = .returned (.tuple #[(d.read i).v, errV (d.readErr i)]) /\ Below w.heap.size w w' := by
 cases hg : d.gone with
 | true => exact callsIn_wide.1 (xJO w base g gm v d i h hg)
 | false =>
  cases hd : d.has i with
  | false => exact callsIn_wide.1 (xGU w base g gm v d i h hg hd)
  | true => exact callsIn_wide.1 (xOF w base g gm v d i h hw hd hg)
end
theorem xNX (w : World) (base g gm : Nat) (v : Value) (d : DM) (i : Int) (h : Lies w base g gm v d) :
  Calls prog 38 #[.pointer (some ⟨g, 0, none⟩), .int .i64 i] w fun e w' => e = .returned (d.sure i).v /\ Below w.heap.size w w' := by
 obtain ⟨Zs, hZ, hZs⟩ : ∃ Zs : Array Value, (∀ w, (zeroValue 66).run prog w = .ok (.agg Zs) w) /\ Zs.size = 128 := ⟨_, x0P, by simp [Sec.cs_len]⟩
 have h2 := h.alloc (.cells Zs 66)
 obtain ⟨-, -, -, -, -, k5, -, -⟩ := h2.cells
 obtain ⟨f0, hm0, hf0⟩ := h2.map
 have lk := x5D (P := prog) underlying101 underlying3 x0P hm0 i
 rw [hf0] at lk
 unfold Sec.v at lk
 have hi : (prog.info? 66).map (·.size) = some (d.sure i).cs.length := by rw [(d.sure i).cs_len]; exact x0X
 have hl := (d.sure i).cs_len
 have ho := (d.sure i).one
 clear h h2 hm0 hf0
 go_enter func38, ntmps38
 go_wp2_with (at_lookup; refine x89 rfl 101 (.tmp 11) (.tmp 12) rfl i _ rfl rfl lk ?_; refine x2T rfl 66 (.tmp 4) (.tmp 13) (by rfl) (d.sure i).cs Zs (by rfl) (by rfl) hi (by rw [hZs, hl]) ho ?_)
 refine bodyPost_ret (results_cell_row rfl _ _ w.heap.size 66 (d.sure i).cs.toArray (0, 0) _ rfl (kW w _ _) underlying66 rfl (by rw [size_toArray]; exact hi)) rfl ?_
 exact ⟨rfl, (kB _ _).alloc (kR _) _⟩
def MadeDisk (w : World) (base n : Nat) (e : Ending) (w' : World) : Prop := ∃ g F, e = .returned (.tuple #[.pointer (some ⟨g, 0, none⟩), .nilIface]) /\ DiskAt w' base F g (DM.new n) /\ Below w.heap.size w w' /\ Over w.heap.size F
theorem x9F (w : World) (base n : Nat) (h0 : 1 <= n) (h1 : n <= 4096) (hB : base <= w.heap.size) :
  Calls prog 12 #[.int .i64 n] w (MadeDisk w base n) := by
 have hmm := @run_makeMap prog
 go_enter func12, ntmps12
 go_wp2
 go_ret2
 refine ⟨w.heap.size + 1, _, rfl, ⟨w.heap.size, .slice none 0 0, rfl, ⟨?_, ⟨fun _ => none, (MapAt.new w).of (kG _ _ _ (by simp)), fun k => rfl⟩, World.ownsRow_nil _ _ _ _, by omega, hB⟩⟩, ((kB _ _).alloc (kR _) _).alloc (by simp) _, ?_⟩
 ·have := kW (w.alloc (.map #[] 0)) 106 (dcells (DM.new n) w.heap.size (.slice none 0 0))
  rw [kJ] at this
  exact this
 ·intro k hk
  simp [rowOf, Value.ownBlock] at hk
  omega
theorem xG1 (P : Program) (e : TypeId) (d : Nat) (a b : LN) (hl : a.length = b.length) (he : P.underlying e = some (.int .u8))
 (hp : ∀ (w : World) (cs : Array Value) (i v : Nat), cs[i]? = some (.int .u8 (v : Int)) -> (Go.part e cs i).run P w = .ok (.int .u8 (v : Int)) w) (w : World) : ∀ m s, s + m = a.length →
    (Sem.run P (forIn (List.range' s m 1) (none, ()) fun i (_ : Option Bool × Unit) => do
        let x ← Go.part e (u8s a).toArray (i * 1)
        let y ← Go.part e (u8s b).toArray (i * 1)
        let r ← Op.equalIn (d + 1) e x y
        if (!r) = true then pure (ForInStep.done (some false, ())) else pure (ForInStep.yield (none, ()))) w) = .ok (if a.drop s = b.drop s then (none, ()) else (some false, ())) w
  | 0, s, h => by
    rw [drop_of_length_le (by omega), drop_of_length_le (by omega)]
    simp
  | m + 1, s, h => by
    have h1 : s < a.length := by omega
    have h2 : s < b.length := by omega
    have pa := hp w (u8s a).toArray s (a[s]) (by simp [u8s, u8, h1])
    have pb := hp w (u8s b).toArray s (b[s]) (by simp [u8s, u8, h2])
    have ih := xG1 P e d a b hl he hp w m (s + 1) (by omega)
    rw [List.range'_succ, List.forIn_cons]
    simp only [Nat.mul_one] at ih ⊢
    simp only [Sem.run_bind, pa, pb, kS, run_equalIn_int w d e .u8 .u8 _ _ he]
    have hd : (a.drop s = b.drop s) ↔ (a[s] = b[s] /\ a.drop (s + 1) = b.drop (s + 1)) := by
      rw [drop_eq_getElem_cons h1, drop_eq_getElem_cons h2, List.cons.injEq]
    by_cases hx : a[s] = b[s]
    · have hb : (((a[s] : Nat) : Int) == ((b[s] : Nat) : Int)) = true := by rw [hx]; simp
      rw [hb]
      simp only [Bool.not_true, Bool.false_eq_true, if_false, Sem.run_pure, kS]
      rw [ih]
      by_cases hy : a.drop (s + 1) = b.drop (s + 1)
      · rw [if_pos hy, if_pos (hd.2 ⟨hx, hy⟩)]
      · rw [if_neg hy, if_neg (fun h => hy (hd.1 h).2)]
    · have hb : (((a[s] : Nat) : Int) == ((b[s] : Nat) : Int)) = false := by simp; omega
      rw [hb, if_neg (fun h => hx (hd.1 h).1)]
      simp
theorem x8C (P : Program) (t e : TypeId) (d : Nat) (a b : LN) (w : World) (ht : P.underlying t = some (.array a.length e)) (he : P.underlying e = some (.int .u8)) (hs : (sizeOf e).run P w = .ok 1 w) (hl : a.length = b.length)
 (hp : ∀ (w : World) (cs : Array Value) (i v : Nat), cs[i]? = some (.int .u8 (v : Int)) -> (Go.part e cs i).run P w = .ok (.int .u8 (v : Int)) w) :
  (Op.equalIn (d + 1 + 1) t (.agg (u8s a).toArray) (.agg (u8s b).toArray)).run P w = .ok (a == b) w := by
 have h0 := xG1 P e d a b hl he hp w a.length 0 (by omega)
 rw [Op.equalIn]
 simp only [Sem.run_bind, run_underlying ht, kS, hs]
 rw [Std.Legacy.Range.forIn_eq_forIn_range']
 simp only [Std.Legacy.Range.size] at h0 ⊢
 simp only [Nat.sub_zero, Nat.div_one, Nat.add_one_sub_one] at h0 ⊢
 rw [h0]
 simp only [drop_zero]
 by_cases hx : a = b
 ·simp [hx]
 ·simp [hx]
theorem xJH (w : World) (cs : Array Value) (i v : Nat) (h : cs[i]? = some (.int .u8 (v : Int))) : (Go.part 5 cs i).run prog w = .ok (.int .u8 (v : Int)) w := by
 have hu := underlying5
 simp [Go.part, isAgg, run_underlying hu, h]
theorem xLQ (w : World) : (sizeOf 5).run prog w = .ok 1 w := by kernel_rfl
def secEq (s t : Sec) : Bool := s.l == t.l
theorem xK4 (s t : Sec) : secEq s t = true ↔ s = t := by
 unfold secEq
 rw [beq_iff_eq]
 exact ⟨Sec.ext_, fun h => by rw [h]⟩
theorem xHF (s : Sec) : secEq s s = true := (xK4 s s).2 rfl
theorem x6K (op : BinOp) (x y : Operand) (a b : Array Value) (w : World) : (eqGuard op 66 x y (.agg a) (.agg b)).run prog w = .ok () w := run_eqGuard_agg w op _ x y a b (by kernel_rfl)
theorem x8N (s t : Sec) (w : World) : (binOp .neq 66 (.agg s.cs.toArray) (.agg t.cs.toArray)).run prog w = .ok (.bool (!secEq s t)) w := by
 rw [run_neq_struct]
 have := x8C prog 66 5 9998 s.l t.l w (by rw [s.len]; exact underlying66) underlying5 (xLQ w) (by rw [s.len, t.len]) xJH
 unfold Sec.cs
 rw [this]
 rfl
section
attribute [local go_sem ↓] Go.wp_at_zero Go.wp_at_succ
def a1 : DM := DM.new 4
def s1 : Sec := Sec.full 1 (by omega)
def s2 : Sec := Sec.full 2 (by omega)
def s3 : Sec := Sec.full 3 (by omega)
def a2 : DM := a1.write 0 s1
def a3 : DM := a2.flush
def a4 : DM := a3.write 0 s2
def a5 : DM := a4.write 1 s3
def a6 : DM := a5.crash [false, true]
theorem e1 : a1.writeErr 0 = 0 := rfl
theorem e2 : a2.stepErr = 0 := rfl
theorem e3 : a3.writeErr 0 = 0 := rfl
theorem e4 : a4.writeErr 1 = 0 := rfl
theorem e5 : a5.wait.length = 2 := rfl
theorem e6 : a6.read 0 = s1 := rfl
theorem e7 : a6.readErr 0 = 0 := rfl
theorem e8 : a6.read 1 = s3 := rfl
theorem e9 : a6.readErr 1 = 0 := rfl
theorem e10 : a6.steps = 4 := rfl

end
theorem xAI (w : World) (p : Addr) (ty : TypeId) (cs : List Value) (d : TypeDesc) (hc : ∀ j v, cs[j]? = some v -> w.cell? (p.add j) = some v)
 (hu : P.underlying ty = some d) (hd : d.isRow = true) (hi : (P.info? ty).map (·.size) = some cs.length) :
  (loadVar ty p).run P w = .ok (.agg cs.toArray) w := by
 have hl : (loadCells p cs.length).run P w = .ok cs.toArray w := run_loadCells_list (P := P) w p cs hc
 cases hq : P.info? ty with
 | none => simp [hq] at hi
 | some i =>
  have hs : i.size = cs.length := by simpa [hq] using hi
  have hagg : (isAgg ty).run P w = .ok true w := by
   unfold isAgg
   rw [Sem.run_bind, run_underlying hu w]
   cases d <;> simp_all
  simp [loadVar, Sem.run_bind, hagg, sizeOf, typeInfo, hq, hs, hl]
theorem x20 {rest : List Oper} (hgd : op.guard = none) (ty : TypeId) (x : Operand) (ho : op.op = .load ty x)
 (p : Addr) (hx : a.eval x = .pointer (some p)) (cs : List Value) (d : TypeDesc) (hc : ∀ j v, cs[j]? = some v -> w.cell? (p.add j) = some v)
 (hu : P.underlying ty = some d) (hd : d.isRow = true) (hi : (P.info? ty).map (·.size) = some cs.length)
 (h : wpList P ops Q rest (a.put op.dst (.agg cs.toArray)) w) : wpList P ops Q (op :: rest) a w :=
 wpList_plain hgd fun _ hK => by
  unfold Oper.wp execOp
  simp only [ho, hx, Instr.loadAt, Instr.sureAddr, Sem.run_bind, Sem.run_pure, kS, xAI w p ty cs d hc hu hd hi]
  exact hK _ _ h
section
def Keep (X : LN) (w w' : World) : Prop := w.heap.size <= w'.heap.size /\ ∀ k ∈ X, w'.heap[k]? = w.heap[k]?
def Holds (w0 w : World) (g : Nat) (d : DM) (X : LN) : Prop := ∃ F, DiskAt w w0.heap.size F g d /\ Below w0.heap.size w0 w /\ ∀ k ∈ X, k ∉ F /\ k < w.heap.size
section
variable {w0 w w' : World} {g : Nat} {d : DM} {X : LN}
theorem Holds.size (h : Holds w0 w g d X) : w0.heap.size <= w.heap.size := by obtain ⟨F, h1, h2, h3⟩ := h; exact h2.size
theorem Holds.since (h : Holds w0 w g d X) : Below w0.heap.size w0 w := by obtain ⟨F, h1, h2, h3⟩ := h; exact h2
theorem Holds.below (h : Holds w0 w g d X) (hb : Below w.heap.size w w') : Holds w0 w' g d X := by
 obtain ⟨F, h1, h2, h3⟩ := h
 exact ⟨F, h1.of (x1V hb h1.under), h2.trans (hb.mono h2.size), fun k hk => ⟨(h3 k hk).1, kL (h3 k hk).2 hb.size⟩⟩
theorem Holds.alloc (h : Holds w0 w g d X) (o : Obj) : Holds w0 (w.alloc o) g d X := h.below ((kB _ _).alloc (kR _) _)
theorem Holds.drew (h : Holds w0 w g d X) : Holds w0 w.drew g d X := h.below (kB _ _).drew
theorem Holds.mono {Y : LN} (h : Holds w0 w g d X) (hs : ∀ k ∈ Y, k ∈ X) : Holds w0 w g d Y := by
 obtain ⟨F, h1, h2, h3⟩ := h
 exact ⟨F, h1, h2, fun k hk => h3 k (hs k hk)⟩
theorem Holds.push (h : Holds w0 w g d X) (o : Obj) : Holds w0 (w.alloc o) g d (w.heap.size :: X) := by
 obtain ⟨F, h1, h2, h3⟩ := h
 refine ⟨F, h1.of (fun k hk => kG _ _ _ (h1.under k hk)), h2.alloc h2.size _, fun k hk => ?_⟩
 rcases kQ hk with rfl | hk
 ·exact ⟨fun hm => by have := h1.under _ hm; omega, by simp⟩
 ·exact ⟨(h3 k hk).1, by have := (h3 k hk).2; simp; omega⟩
theorem Holds.kept (h : Holds w0 w g d X) {j : Nat} (hj : j ∈ X) (ho : Only [j] w w') (hB : w0.heap.size <= j) : Holds w0 w' g d X := by
 obtain ⟨F, h1, h2, h3⟩ := h
 refine ⟨F, h1.of (fun k hk => ho.block k (h1.under k hk) (fun hm => by simp at hm; subst hm; exact (h3 k hj).1 hk)), h2.trans (ho.below (fun k hk => by simp at hk; omega) h2.size), fun k hk => ⟨(h3 k hk).1, kL (h3 k hk).2 ho.size⟩⟩
theorem Holds.made {e : Ending} (hb : Below w0.heap.size w0 w) (h : MadeDisk w w0.heap.size n e w') : ∃ g, e = .returned (.tuple #[.pointer (some ⟨g, 0, none⟩), .nilIface]) /\ Holds w0 w' g (DM.new n) [] := by
 obtain ⟨g, F, he, h1, h2, h3⟩ := h
 exact ⟨g, he, F, h1, hb.trans (h2.mono hb.size), fun k hk => by cases hk⟩
theorem Holds.to {d' : DM} (h1 : DiskAt w w0.heap.size F g d) (h2 : Below w0.heap.size w0 w) (h3 : ∀ k ∈ X, k ∉ F /\ k < w.heap.size) (h : DTo w w0.heap.size F g d' w') : Holds w0 w' g d' X /\ Keep X w w' := by
 obtain ⟨F', h4, h5, h6⟩ := h
 refine ⟨⟨F', h4, h2.trans (h5.below h1.over h2.size), fun k hk => ⟨fun hm => ?_, kL (h3 k hk).2 h5.size⟩⟩, h5.size, fun k hk => h5.block k (h3 k hk).2 (h3 k hk).1⟩
 rcases h6 k hm with h7 | h7
 ·exact (h3 k hk).1 h7
 ·have := (h3 k hk).2; omega
theorem Keep.blk {cs : Array Value} (h : Keep X w w') (hk : k ∈ X) (hb : Blk w k t cs) : Blk w' k t cs := hb.of (h.2 k hk)
theorem Keep.below (h : Below w.heap.size w w') (hX : ∀ k ∈ X, k < w.heap.size) : Keep X w w' := ⟨h.size, fun k hk => h.block k (hX k hk)⟩
theorem Keep.trans {w'' : World} (h : Keep X w w') (h' : Keep X w' w'') : Keep X w w'' := ⟨kT h.1 h'.1, fun k hk => (h'.2 k hk).trans (h.2 k hk)⟩
theorem xHM (h : Holds w0 w g d X) (i : Int) (s : Sec) (hs : d.steps < 4611686018427387904) (hl : d.left <= 9223372036854775807) (hw : d.wait.length <= 1000000) :
  Calls prog 204 #[.pointer (some ⟨g, 0, none⟩), .int .i64 i, s.v] w fun e w' => e = .returned (errV (d.writeErr i)) /\ Holds w0 w' g (d.write i s) X /\ Keep X w w' := by
 obtain ⟨F, h1, h2, h3⟩ := h
 exact (xIK w _ g F d i s h1 hs hl hw h2.size).mono fun e w' ⟨he, ht⟩ => ⟨he, Holds.to h1 h2 h3 ht⟩
theorem xGY (h : Holds w0 w g d X) (hs : d.steps < 4611686018427387904) (hl : d.left <= 9223372036854775807) (hw : d.wait.length <= 1000000) :
  Calls prog 205 #[.pointer (some ⟨g, 0, none⟩)] w fun e w' => e = .returned (errV d.stepErr) /\ Holds w0 w' g d.flush X /\ Keep X w w' := by
 obtain ⟨F, h1, h2, h3⟩ := h
 exact (xKK w _ g F d h1 hs hl hw).mono fun e w' ⟨he, ht⟩ => ⟨he, Holds.to h1 h2 h3 ht⟩
theorem xHQ (h : Holds w0 w g d X) (hw : d.wait.length <= 1000000) (A : OA) (c B : Nat) (keep : List Bool) (hR : ∀ F, DiskAt w w0.heap.size F g d -> ∀ W', Only F w W' -> Reads W' B 1 A keep.length (flags keep)) :
  Calls prog 23 #[.pointer (some ⟨g, 0, none⟩), .slice A keep.length c] w fun e w' => e = .returned (.tuple #[]) /\ Holds w0 w' g (d.crash keep) X /\ Keep X w w' := by
 obtain ⟨F, h1, h2, h3⟩ := h
 exact (xKW w _ g F d A c B keep h1 hw (hR F h1)).mono fun e w' ⟨he, ht⟩ => ⟨he, Holds.to h1 h2 h3 ht⟩
theorem xBT (h : Holds w0 w g d X) (i : Int) :
  Calls prog 38 #[.pointer (some ⟨g, 0, none⟩), .int .i64 i] w fun e w' => e = .returned (d.sure i).v /\ Below w.heap.size w w' := by
 obtain ⟨F, ⟨gm, v, rfl, h1⟩, h2, h3⟩ := h
 exact xNX w _ g gm v d i h1
theorem x4J (h : Holds w0 w g d X) : Calls prog 37 #[.pointer (some ⟨g, 0, none⟩)] w fun e w' => e = .returned (.int .i64 d.n) /\ w = w' := by
 obtain ⟨F, ⟨gm, v, rfl, h1⟩, h2, h3⟩ := h
 exact xP7 w _ g gm v d h1
theorem x3T (h : Holds w0 w g d X) : Calls prog 25 #[.pointer (some ⟨g, 0, none⟩)] w fun e w' => e = .returned (.int .i64 d.steps) /\ w = w' := by
 obtain ⟨F, ⟨gm, v, rfl, h1⟩, h2, h3⟩ := h
 exact xKP w _ g gm v d h1
end
def sixCells (f : Nat -> Sec) (n : Nat) : List Value := (List.range n).flatMap fun i => (f i).cs
theorem x1Z (f : Nat -> Sec) : ∀ n, (sixCells f n).length = n * 128
 | 0 => rfl
 | n + 1 => by
  have := x1Z f n
  unfold sixCells at this ⊢
  rw [range_succ, flatMap_append, kN, this]
  simp [Sec.cs_len]
  omega
theorem xD8 (f : Nat -> Sec) : ∀ (n i j : Nat), i < n -> j < 128 -> (sixCells f n)[i * 128 + j]? = (f i).cs[j]?
 | 0, i, j, h, _ => by omega
 | n + 1, i, j, h, hj => by
  have hl := x1Z f n
  unfold sixCells at hl ⊢
  rw [range_succ, flatMap_append]
  by_cases hi : i < n
  ·rw [List.getElem?_append_left (by rw [hl]; omega)]
   exact xD8 f n i j hi hj
  ·obtain rfl : i = n := by omega
   rw [List.getElem?_append_right (by rw [hl]; omega), hl, show i * 128 + j - i * 128 = j by omega]
   simp
theorem x6V : ∀ (vs : List Value) (o : Nat) {w : World} {g : Nat} {t : TypeId} {cs : List Value}, Blk w g t cs.toArray -> o + vs.length <= cs.length -> Blk (w.setCells g o vs) g t (cs.take o ++ vs ++ cs.drop (o + vs.length)).toArray
 | [], o, w, g, t, cs, h, hl => by simpa [World.setCells] using h
 | v :: vs, o, w, g, t, cs, h, hl => by
  have h1 := h.set_ o v
  rw [setIfInBounds_toArray] at h1
  simp only [length_cons] at hl
  have h2 := x6V vs (o + 1) h1 (by simp; omega)
  have e : (cs.set o v).take (o + 1) ++ vs ++ (cs.set o v).drop (o + 1 + vs.length) = cs.take o ++ v :: vs ++ cs.drop (o + (v :: vs).length) := by
   rw [take_add_one, List.take_set_of_le (kR _), List.getElem?_set_self (by omega), List.drop_set_of_lt (by omega), length_cons, show o + 1 + vs.length = o + (vs.length + 1) by omega]
   simp
  rw [e] at h2
  exact h2
theorem xPA (f : Nat -> Sec) (s : Sec) (n i : Nat) (hi : i < n) : (sixCells f n).take (i * 128) ++ s.cs ++ (sixCells f n).drop (i * 128 + s.cs.length) = sixCells (fun j => if j = i then s else f j) n := by
  apply ext_getElem?
  intro q
  have hq : q = q / 128 * 128 + q % 128 := by omega
  have hm : q % 128 < 128 := Nat.mod_lt _ (by omega)
  have hl := x1Z f n
  have hs := s.cs_len
  rcases Nat.lt_or_ge q (n * 128) with hlt | hge
  · have h2 : (sixCells (fun j => if j = i then s else f j) n)[q]? = (if q / 128 = i then s else f (q / 128)).cs[q % 128]? := by
      have := xD8 (fun j => if j = i then s else f j) n (q / 128) (q % 128) (by omega) hm
      rw [<- hq] at this
      exact this
    have h3 : (sixCells f n)[q]? = (f (q / 128)).cs[q % 128]? := by
      have := xD8 f n (q / 128) (q % 128) (by omega) hm
      rw [<- hq] at this
      exact this
    rw [h2]
    by_cases h4 : q < i * 128
    · rw [append_assoc, List.getElem?_append_left (by rw [length_take, hl]; omega), List.getElem?_take, if_pos h4, h3, if_neg (by omega)]
    · rw [append_assoc, List.getElem?_append_right (by rw [length_take, hl]; omega), length_take, hl, Nat.min_eq_left (by omega)]
      by_cases h5 : q < i * 128 + 128
      · rw [List.getElem?_append_left (by omega), if_pos (by omega)]
        congr 1
        omega
      · rw [List.getElem?_append_right (by omega), List.getElem?_drop, if_neg (by omega), <- h3]
        congr 1
        omega
  · rw [List.getElem?_eq_none (by simp [hl, hs]; omega), List.getElem?_eq_none (by rw [x1Z]; omega)]
end
section
namespace Crc
def shift (r : Nat) : Nat := (r / 2) ^^^ (if r % 2 = 1 then 2197175160 else 0)
theorem xND (a b : Nat) : (a ^^^ b) % 2 = (a % 2 + b % 2) % 2 := by
 have := Nat.xor_mod_two_pow (a := a) (b := b) (n := 1)
 simp at this
 rw [this]
 rcases Nat.mod_two_eq_zero_or_one a with h | h <;> rcases Nat.mod_two_eq_zero_or_one b with h' | h' <;> simp [h, h']
theorem xPQ (a b i : Nat) : (a ^^^ b) / 2 ^ i = (a / 2 ^ i) ^^^ (b / 2 ^ i) := by
  rw [<- Nat.shiftRight_eq_div_pow, <- Nat.shiftRight_eq_div_pow, <- Nat.shiftRight_eq_div_pow, Nat.shiftRight_xor_distrib]
theorem xor4 (a b c d : Nat) : (a ^^^ b) ^^^ (c ^^^ d) = (a ^^^ c) ^^^ (b ^^^ d) := by
  rw [Nat.xor_assoc, <- Nat.xor_assoc b c d, Nat.xor_comm b c, Nat.xor_assoc c b d, <- Nat.xor_assoc a c]
theorem xIG (a b : Nat) : shift (a ^^^ b) = shift a ^^^ shift b := by
 unfold shift
 rw [show (a ^^^ b) / 2 = (a / 2) ^^^ (b / 2) from xPQ a b 1, xor4]
 congr 1
 rw [xND]
 rcases Nat.mod_two_eq_zero_or_one a with h | h <;> rcases Nat.mod_two_eq_zero_or_one b with h' | h' <;> simp [h, h']
theorem xD4 (h : r < 4294967296) : shift r < 4294967296 := by
 unfold shift
 exact Nat.xor_lt_two_pow (n := 32) (by omega) (by split <;> omega)
def shifts : Nat -> Nat -> Nat
 | 0, r => r
 | n + 1, r => shifts n (shift r)
theorem x5G (n a b : Nat) : shifts n (a ^^^ b) = shifts n a ^^^ shifts n b := by
 induction n generalizing a b with
 | zero => rfl
 | succ n ih => simp only [shifts, xIG, ih]
theorem x2W (n : Nat) (h : r < 4294967296) : shifts n r < 4294967296 := by
 induction n generalizing r with
 | zero => exact h
 | succ n ih => exact ih (xD4 h)
theorem x37 (m n r : Nat) : shifts (m + n) r = shifts n (shifts m r) := by
 induction m generalizing r with
 | zero => simp [shifts]
 | succ m ih => rw [Nat.succ_add]; simp only [shifts, ih]
def tab (i : Nat) : Nat := [0, 274646895, 549293790, 820201905, 1098587580, 1361435347, 1640403810, 1905808397, 2197175160, 2460548119, 2722870694, 2987750089, 3280807620, 3553878443, 3811616794, 4084100981].getD i 0
def half (r : Nat) : Nat := (r / 16) ^^^ tab (r % 16)
theorem x9O : ∀ i, i < 16 -> tab i = shifts 4 i := by decide +kernel
theorem tab_lt (i : Nat) : tab i < 4294967296 := by
 by_cases h : i < 16
 ·rw [x9O i h]; exact x2W 4 (by omega)
 ·unfold tab
  rw [getD_eq_getElem?_getD, List.getElem?_eq_none (by simp; omega)]
  simp
theorem x9L (q : Nat) : shift (2 * q) = q := by
 unfold shift
 simp
theorem xFP (q : Nat) : shifts 4 (16 * q) = q := by
 have h1 : 16 * q = 2 * (2 * (2 * (2 * q))) := by omega
 rw [h1]
 simp only [shifts, x9L]
theorem split16 (r : Nat) : r = (16 * (r / 16)) ^^^ (r % 16) := by
 have h1 : 16 * (r / 16) + r % 16 = r := Nat.div_add_mod r 16
 have h2 : 2 ^ 4 * (r / 16) + r % 16 = 2 ^ 4 * (r / 16) ||| r % 16 := Nat.two_pow_add_eq_or_of_lt (b := r % 16) (i := 4) (Nat.mod_lt _ (by omega)) (r / 16)
 have h3 : (2 ^ 4 * (r / 16)) ^^^ (r % 16) = 2 ^ 4 * (r / 16) ||| r % 16 := by
  apply Nat.eq_of_testBit_eq
  intro i
  rw [Nat.testBit_xor, Nat.testBit_or, Nat.testBit_two_pow_mul, show r % 16 = r % 2 ^ 4 from rfl, Nat.testBit_mod_two_pow]
  by_cases h : i < 4
  ·have : ¬ (4 <= i) := by omega
   simp [h, this]
  ·simp [h]
 rw [<- h2, h1] at h3
 exact h3.symm
theorem x53 (r : Nat) : half r = shifts 4 r := by
 unfold half
 rw [x9O _ (Nat.mod_lt _ (by omega))]
 conv => rhs; rw [split16 r]
 rw [x5G, xFP]
theorem half_lt (h : r < 4294967296) : half r < 4294967296 := by rw [x53]; exact x2W 4 h
def byte (r c : Nat) : Nat := half (half (r ^^^ c))
def over (r : Nat) (bs : LN) : Nat := bs.foldl byte r
theorem x28 (r c : Nat) : byte r c = shifts 8 (r ^^^ c) := by
 unfold byte
 rw [x53, x53, <- x37]
theorem byte_lt {c : Nat} (h : r < 4294967296) (hc : c < 256) : byte r c < 4294967296 := by
 rw [x28]
 exact x2W 8 (Nat.xor_lt_two_pow (n := 32) (by omega) (by omega))
theorem over_lt (hb : ∀ b ∈ bs, b < 256) : ∀ {r : Nat}, r < 4294967296 -> over r bs < 4294967296 := by
 induction bs with
 | nil => intro r h; exact h
 | cons b bs ih => intro r h; exact ih (fun x hx => hb x (by simp [hx])) (byte_lt h (hb b (by simp)))
theorem x55 (r : Nat) (a b : LN) : over r (a ++ b) = over (over r a) b := by simp [over, List.foldl_append]
theorem over_snoc (r : Nat) (a : LN) (b : Nat) : over r (a ++ [b]) = byte (over r a) b := by simp [over, List.foldl_append]
def go (s : Nat) (bs : LN) : Nat := 4294967295 - over (4294967295 - s) bs
def sum (bs : LN) : Nat := go 0 bs
theorem go_lt (s : Nat) (bs : LN) : go s bs < 4294967296 := by unfold go; omega
theorem go_append (s : Nat) (a b : LN) (ha : ∀ x ∈ a, x < 256) : go (go s a) b = go s (a ++ b) := by
 unfold go
 rw [x55]
 have := over_lt ha (r := 4294967295 - s) (by omega)
 rw [show 4294967295 - (4294967295 - over (4294967295 - s) a) = over (4294967295 - s) a by omega]
theorem xEH (r s c d : Nat) : byte (r ^^^ s) (c ^^^ d) = byte r c ^^^ byte s d := by
  rw [x28, x28, x28, <- x5G, xor4]
theorem xA6 : ∀ (bs : LN) (r s : Nat), over (r ^^^ s) bs = over r bs ^^^ shifts (8 * bs.length) s
 | [], r, s => rfl
 | b :: bs, r, s => by
  have h : byte (r ^^^ s) b = byte r b ^^^ shifts 8 s := by
   have := xEH r s b 0
   rw [Nat.xor_zero] at this
   rw [this, x28 s, Nat.xor_zero]
  show over (byte (r ^^^ s) b) bs = over (byte r b) bs ^^^ _
  rw [h, xA6 bs, <- x37, length_cons, show 8 * (bs.length + 1) = 8 + 8 * bs.length by omega]
def part (s j : Nat) : Nat := s / 2 ^ (8 * j) % 256
def chg (t : LN) (k s : Nat) : Nat -> LN
 | 0 => t
 | j + 1 => (chg t k s j).set (k + j) (t.getD (k + j) 0 ^^^ part s j)
theorem xOL (a : LN) (k : Nat) (hk : a.length = k) (l : LN) (j v : Nat) : (a ++ l).set (k + j) v = a ++ l.set j v := by
 rw [set_append_right _ _ (by omega)]
 congr 2
 omega
theorem xMN (a : LN) (k : Nat) (hk : a.length = k) (l : LN) (j : Nat) : (a ++ l).getD (k + j) 0 = l.getD j 0 := by
 rw [getD_eq_getElem?_getD, getD_eq_getElem?_getD, List.getElem?_append_right (by omega)]
 congr 2
 omega
theorem xO1 (a : LN) (k : Nat) (hk : a.length = k) (x y z u : Nat) (r : LN) (s : Nat) :
  chg (a ++ x :: y :: z :: u :: r) k s 4 = a ++ (x ^^^ part s 0) :: (y ^^^ part s 1) :: (z ^^^ part s 2) :: (u ^^^ part s 3) :: r := by
 simp only [chg, xMN a k hk, xOL a k hk]
 simp
theorem split256 (r : Nat) : r = (256 * (r / 256)) ^^^ (r % 256) := by
 have h1 : 256 * (r / 256) + r % 256 = r := Nat.div_add_mod r 256
 have h2 : 2 ^ 8 * (r / 256) + r % 256 = 2 ^ 8 * (r / 256) ||| r % 256 := Nat.two_pow_add_eq_or_of_lt (b := r % 256) (i := 8) (Nat.mod_lt _ (by omega)) (r / 256)
 have h3 : (2 ^ 8 * (r / 256)) ^^^ (r % 256) = 2 ^ 8 * (r / 256) ||| r % 256 := by
  apply Nat.eq_of_testBit_eq
  intro i
  rw [Nat.testBit_xor, Nat.testBit_or, Nat.testBit_two_pow_mul, show r % 256 = r % 2 ^ 8 from rfl, Nat.testBit_mod_two_pow]
  by_cases h : i < 8
  ·have : ¬ (8 <= i) := by omega
   simp [h, this]
  ·simp [h]
 rw [<- h2, h1] at h3
 exact h3.symm
theorem xFJ (q : Nat) : shifts 8 (256 * q) = q := by
 have h1 : 256 * q = 2 * (2 * (2 * (2 * (2 * (2 * (2 * (2 * q))))))) := by omega
 rw [h1]
 simp only [shifts, x9L]
theorem x4Q (r q : Nat) : byte (r ^^^ q) (q % 256) = shifts 8 r ^^^ q / 256 := by
 rw [x28, Nat.xor_assoc, x5G]
 congr 1
 have h := split256 q
 have h2 : q ^^^ (q % 256) = 256 * (q / 256) := by
  conv => lhs; lhs; rw [h]
  rw [Nat.xor_assoc, Nat.xor_self, Nat.xor_zero]
 rw [h2, xFJ]
theorem xJA (s : Nat) (hs : s < 4294967296) : over 0 [part s 0, part s 1, part s 2, part s 3] = shifts 32 s := by
 have h0 : (0 : Nat) = s ^^^ s := (Nat.xor_self s).symm
 have p0 : part s 0 = s % 256 := by simp [part]
 have p1 : part s 1 = s / 256 % 256 := by simp [part]
 have p2 : part s 2 = s / 256 / 256 % 256 := by simp [part, Nat.div_div_eq_div_mul]
 have p3 : part s 3 = s / 256 / 256 / 256 % 256 := by simp [part, Nat.div_div_eq_div_mul]
 simp only [over, List.foldl]
 rw [p0, p1, p2, p3]
 have e0 : byte 0 (s % 256) = byte (s ^^^ s) (s % 256) := by rw [<- h0]
 rw [e0]
 clear h0 e0
 rw [x4Q, x4Q, x4Q, x4Q, <- x37, <- x37, <- x37]
 have : s / 256 / 256 / 256 / 256 = 0 := by omega
 rw [this, Nat.xor_zero]
theorem xCH (hr : r < 4294967296) (h : shift r = 0) : r = 0 := by
 unfold shift at h
 rcases Nat.mod_two_eq_zero_or_one r with e | e
 ·rw [if_neg (by omega), Nat.xor_zero] at h
  omega
 ·rw [if_pos e] at h
  have : r / 2 = 2197175160 := by
   have h1 : (r / 2 ^^^ 2197175160) ^^^ 2197175160 = 0 ^^^ 2197175160 := by rw [h]
   rw [Nat.xor_assoc, Nat.xor_self, Nat.xor_zero, Nat.zero_xor] at h1
   exact h1
  omega
theorem x5E (n : Nat) : ∀ {r : Nat}, r < 4294967296 -> shifts n r = 0 -> r = 0 := by
 induction n with
 | zero => intro r _ h; exact h
 | succ n ih => intro r hr h; exact xCH hr (ih (xD4 hr) h)
theorem xLZ (r s : Nat) : ∀ (a b : LN), a.length = b.length -> over (r ^^^ s) (List.zipWith (· ^^^ ·) a b) = over r a ^^^ over s b := by
 intro a
 induction a generalizing r s with
 | nil => intro b hb; cases b with
  | nil => rfl
  | cons _ _ => simp at hb
 | cons x a ih =>
  intro b hb
  cases b with
  | nil => simp at hb
  | cons y b =>
   show over (byte (r ^^^ s) (x ^^^ y)) _ = over (byte r x) a ^^^ over (byte s y) b
   rw [xEH]
   exact ih _ _ b (by simpa using hb)
theorem finds (a : LN) (x y z u : Nat) (r : LN) (s : Nat) (h0 : 0 < s) (hs : s < 4294967296) (ht : ∀ b ∈ a ++ x :: y :: z :: u :: r, b < 256) :
  sum (a ++ (x ^^^ part s 0) :: (y ^^^ part s 1) :: (z ^^^ part s 2) :: (u ^^^ part s 3) :: r) ≠ sum (a ++ x :: y :: z :: u :: r) := by
 intro e
 have hlt : over 4294967295 (a ++ x :: y :: z :: u :: r) < 4294967296 := over_lt ht (by omega)
 have e1 : over 4294967295 (a ++ (x ^^^ part s 0) :: (y ^^^ part s 1) :: (z ^^^ part s 2) :: (u ^^^ part s 3) :: r) = over 4294967295 (a ++ x :: y :: z :: u :: r) ^^^ shifts (8 * r.length) (shifts 32 s) := by
  rw [x55, x55]
  generalize over 4294967295 a = q
  have h := xLZ q 0 [x, y, z, u] [part s 0, part s 1, part s 2, part s 3] rfl
  rw [Nat.xor_zero, xJA s hs] at h
  have h4 : ∀ (q x y z u : Nat) (r : LN), over q (x :: y :: z :: u :: r) = over (over q [x, y, z, u]) r := fun _ _ _ _ _ _ => rfl
  rw [h4 q x, h4 q (x ^^^ part s 0)]
  simp only [List.zipWith] at h
  rw [h]
  exact xA6 r _ _
 have hd : shifts (8 * r.length) (shifts 32 s) < 4294967296 := x2W _ (x2W _ hs)
 have hlt2 : over 4294967295 (a ++ x :: y :: z :: u :: r) ^^^ shifts (8 * r.length) (shifts 32 s) < 4294967296 := Nat.xor_lt_two_pow (n := 32) hlt hd
 unfold sum go at e
 rw [show 4294967295 - 0 = 4294967295 from rfl, e1] at e
 generalize over 4294967295 (a ++ x :: y :: z :: u :: r) = q at *
 generalize hD : shifts (8 * r.length) (shifts 32 s) = d at *
 have e2 : q ^^^ d = q := by omega
 have e3 : d = 0 := by
  have : q ^^^ (q ^^^ d) = q ^^^ q := by rw [e2]
  rwa [<- Nat.xor_assoc, Nat.xor_self, Nat.zero_xor] at this
 have e4 := x5E _ (x2W 32 hs) (hD.trans e3)
 have e5 := x5E _ hs e4
 omega
theorem finds_chg (t : LN) (k s : Nat) (hk : k + 4 <= t.length) (h0 : 0 < s) (hs : s < 4294967296) (ht : ∀ b ∈ t, b < 256) : sum (chg t k s 4) ≠ sum t := by
 obtain ⟨x, y, z, u, r, e⟩ : ∃ x y z u r, t.drop k = x :: y :: z :: u :: r := by
  have hl : (t.drop k).length = t.length - k := length_drop
  match h : t.drop k with
  | [] => rw [h] at hl; simp at hl; omega
  | [_] => rw [h] at hl; simp at hl; omega
  | [_, _] => rw [h] at hl; simp at hl; omega
  | [_, _, _] => rw [h] at hl; simp at hl; omega
  | x :: y :: z :: u :: r => exact ⟨x, y, z, u, r, rfl⟩
 have ht' : t = t.take k ++ x :: y :: z :: u :: r := by rw [<- e, take_append_drop]
 have hl : (t.take k).length = k := by rw [length_take]; omega
 generalize t.take k = a at *
 subst ht'
 rw [xO1 a k hl]
 exact finds a x y z u r s h0 hs ht
end Crc
end
theorem not32 (s : Nat) (h : s < 4294967296) : bits .xor .u32 IntKind.u32.max (s : Int) = ((4294967295 - s : Nat) : Int) := by
 rw [show IntKind.u32.max = ((4294967295 : Nat) : Int) from by decide, u32_xor_nat _ _ (by omega) h]
 have : 4294967295 ^^^ s = 4294967295 - s := by
  have h1 : 2 ^ 32 - 1 - s = 2 ^ 32 - (s + 1) := by omega
  apply Nat.eq_of_testBit_eq
  intro i
  rw [show (4294967295 : Nat) = 2 ^ 32 - 1 from rfl, h1, Nat.testBit_xor, Nat.testBit_two_pow_sub_succ (x := s) (by omega), Nat.testBit_two_pow_sub_one]
  by_cases hi : i < 32
  ·simp [hi]
  ·simp only [hi, decide_false, Bool.false_xor, Bool.false_and]
   exact Nat.testBit_lt_two_pow (kL (show s < 2 ^ 32 by omega) (Nat.pow_le_pow_right (by omega) (by omega)))
 rw [this]
def Tab (w : World) : Prop := ∀ i, i < 16 -> w.cell? ⟨0, i, none⟩ = some (.int .u32 (Crc.tab i : Int))
theorem and15 (r : Nat) (h : r < 4294967296) : bits .and .u32 (r : Int) 15 = ((r % 16 : Nat) : Int) := by
  rw [show (15 : Int) = ((15 : Nat) : Int) from rfl, u32_and_nat _ _ h (by omega), nat_mask4]
theorem xN3 (r : Nat) (h : r < 4294967296) : bits .xor .u32 ((r : Int) / 16) (Crc.tab (r % 16) : Int) = ((Crc.half r : Nat) : Int) := by
 rw [show ((r : Int) / 16) = ((r / 16 : Nat) : Int) from by omega, u32_xor_nat _ _ (by omega) (Crc.tab_lt _)]
 rfl
def halves : Nat -> Nat -> Nat
 | 0, r => r
 | n + 1, r => Crc.half (halves n r)
theorem xHS (r c : Nat) : halves 2 (r ^^^ c) = Crc.byte r c := rfl
theorem xQF (A : OA) (n c s B : Nat) (bs : LN) (w : World) (hs : s < 4294967296) (hn : n <= 1000000) (hb : Bytes w B A n bs) (hT : Tab w) :
  Calls prog 285 #[.int .u32 s, .slice A n c] w fun e w' => e = .returned (.int .u32 (Crc.go s bs)) /\ w = w' := by
 have HT := kH hT
 clear hT
 go_enter func285, ntmps285
 go_wp2
 rw [not32 s hs]
 go_loop [5, 12] (fun r i => ∃ k : Nat, k <= n /\ i = .int .i64 k /\ r = .int .u32 (Crc.over (4294967295 - s) (bs.take k) : Nat)) (fun _ i => n - (intOf i).toNat)
 case atStart => exact ⟨0, kY _, rfl, by simp [Crc.over]⟩
 case round =>
  obtain ⟨k, hk, rfl, rfl⟩ := hrel
  by_cases hlt : k < n
  ·obtain ⟨ad, b, rfl, hbk, hb256, hc⟩ := hb.at_ hlt
   have hr1 := Crc.over_lt (bs := bs.take k) (fun x hx => hb.2 x (mem_of_mem_take hx)) (r := 4294967295 - s) (by omega)
   have Hx := kH (u32_xor_nat _ b hr1 (by omega))
   have Hend : Hid (Crc.over (4294967295 - s) (bs.take (k + 1)) = halves 2 (Crc.over (4294967295 - s) (bs.take k) ^^^ b)) := by
    rw [xL5 hbk, Crc.over_snoc, xHS]; exact kH rfl
   have hr2 : Crc.over (4294967295 - s) (bs.take k) ^^^ b < 4294967296 := Nat.xor_lt_two_pow (n := 32) (by omega) (by omega)
   clear hbk
   generalize Crc.over (4294967295 - s) (bs.take k) = r1 at *
   go_wp2
   rw [Hx.out]
   generalize r1 ^^^ b = r2 at *
   go_loop [5, 20] (fun r i => ∃ j t : Nat, j <= 2 /\ i = .int .i64 j /\ r = .int .u32 t /\ t < 4294967296 /\ Hid (t = halves j r2)) (fun _ i => 2 - (intOf i).toNat)
   case atStart => exact ⟨0, r2, by omega, rfl, rfl, hr2, kH rfl⟩
   case round =>
    obtain ⟨j, t, hj, rfl, rfl, ht, Ht⟩ := hrel
    by_cases hj2 : j < 2
    ·have hA := and15 t ht
     have hX := xN3 t ht
     have hC := HT.out (t % 16) (Nat.mod_lt _ (by omega))
     go_wp2
     go_round
     case rel => exact ⟨j + 1, Crc.half t, by omega, by go_num, rfl, Crc.half_lt ht, kH (by rw [Ht.out]; rfl)⟩
     case measure => simp [intOf]; omega
    ·go_wp2
     go_round
     case rel => 
      obtain rfl : j = 2 := by omega
      exact ⟨k + 1, by omega, by go_num, by rw [Hend.out, Ht.out]⟩
     case measure => simp [intOf]; omega
  ·go_wp2
   rw [not32 _ (Crc.over_lt (bs := bs.take k) (fun x hx => hb.2 x (mem_of_mem_take hx)) (r := 4294967295 - s) (by omega))]
   go_ret
   refine ⟨x3A ?_, rfl⟩
   rw [take_of_length_le (by have := hb.len; omega)]
   rfl
def partVal (p : OA × Nat × Nat × LN) : Value := .slice p.1 p.2.1 p.2.2.1
def Parts (w : World) (B : Nat) (A : OA) (m : Nat) (ps : List (OA × Nat × Nat × LN)) : Prop :=
  Reads w B 1 A m (ps.map partVal) /\ ∀ p ∈ ps, Bytes w B p.1 p.2.1 p.2.2.2 /\ p.2.1 <= 1000000
def textOf (ps : List (OA × Nat × Nat × LN)) : LN := ps.flatMap fun p => p.2.2.2
theorem Parts.at_ {ps : List (OA × Nat × Nat × LN)} (h : Parts w B A m ps) (hk : k < m) :
  ∃ (ad : Addr) (p : OA × Nat × Nat × LN), A = some ad /\ ps[k]? = some p /\ Bytes w B p.1 p.2.1 p.2.2.2 /\ p.2.1 <= 1000000 /\ w.cell? (ad.add k) = some (.slice p.1 p.2.1 p.2.2.1) := by
 obtain ⟨ad, u, e, hb, hx, hc⟩ := h.1.at_ hk
 have hl : k < ps.length := by have := h.1.1; simp at this; omega
 have hp := h.2 _ (List.getElem_mem hl)
 refine ⟨ad, ps[k], e, List.getElem?_eq_getElem hl, hp.1, hp.2, ?_⟩
 rw [hc, <- hx]
 simp [partVal, hl]
theorem xJW {ps : List (OA × Nat × Nat × LN)} (h : Parts w B A m ps) : ∀ b ∈ textOf ps, b < 256 := by
 intro b hb
 obtain ⟨p, hp, hbp⟩ := mem_flatMap.1 hb
 exact (h.2 p hp).1.2 b hbp
theorem xFF {ps : List (OA × Nat × Nat × LN)} {p : OA × Nat × Nat × LN} (h : ps[k]? = some p) : textOf (ps.take (k + 1)) = textOf (ps.take k) ++ p.2.2.2 := by
  rw [take_add_one, h]; simp [textOf]
theorem xAK {ps : List (OA × Nat × Nat × LN)} (h : ∀ b ∈ textOf ps, b < 256) : ∀ b ∈ textOf (ps.take k), b < 256 := by
 intro b hb
 obtain ⟨p, hp, hbp⟩ := mem_flatMap.1 hb
 exact h b (mem_flatMap.2 ⟨p, mem_of_mem_take hp, hbp⟩)
theorem xPC (A : OA) (m c B : Nat) (ps : List (OA × Nat × Nat × LN)) (w : World) (hm : m <= 1000000) (hb : Parts w B A m ps) (hT : Tab w) :
  Calls prog 271 #[.slice A m c] w fun e w' => e = .returned (.int .u32 (Crc.sum (textOf ps))) /\ w = w' := by
 have HT := kH hT
 clear hT
 go_enter func271, ntmps271
 go_wp2
 go_loop [3, 8] (fun r i => ∃ k : Nat, k <= m /\ i = .int .i64 k /\ r = .int .u32 (Crc.sum (textOf (ps.take k)) : Nat)) (fun _ i => m - (intOf i).toNat)
 case atStart => exact ⟨0, kY _, rfl, by simp [textOf, Crc.sum, Crc.go, Crc.over]⟩
 case round =>
  obtain ⟨k, hk, rfl, rfl⟩ := hrel
  by_cases hlt : k < m
  ·obtain ⟨ad, p, rfl, hpk, hbp, hpn, hc⟩ := hb.at_ hlt
   obtain ⟨pA, pn, pc, pbs⟩ := p
   have Hend := kH (Crc.go_append 0 (textOf (ps.take k)) pbs (xAK (xJW hb)))
   have Htk := kH (xFF hpk)
   clear hpk
   have hs : Crc.sum (textOf (ps.take k)) < 4294967296 := Crc.go_lt _ _
   go_wp2_with (go_at_call 285; refine (xQF _ _ _ _ _ _ _ hs hpn hbp HT.out).mono ?_; rintro e w' ⟨rfl, rfl⟩)
   go_round
   case rel => exact ⟨k + 1, by omega, by go_num, by rw [Htk.out]; unfold Crc.sum; rw [<- Hend.out]⟩
   case measure => simp [intOf]; omega
  ·go_wp2
   go_ret
   refine ⟨x3A ?_, rfl⟩
   rw [take_of_length_le (by have := hb.1.1; simp at this; omega)]
theorem Tab.pos (h : Tab w) : 0 < w.heap.size := by
 have h0 := h 0 (by omega)
 rcases Nat.eq_zero_or_pos w.heap.size with e | e
 ·simp [World.cell?, Array.getElem?_eq_none (show w.heap.size <= 0 by omega)] at h0
 ·exact e
theorem Tab.keep (h : Tab w) (hk : ∀ p : Addr, p.block < w.heap.size -> w'.cell? p = w.cell? p) : Tab w' :=
  fun i hi => (hk ⟨0, i, none⟩ h.pos).trans (h i hi)
theorem Tab.below (h : Tab w) (hb : Below w.heap.size w w') : Tab w' := h.keep fun _ hp => hb.cell hp
theorem Parts.new (w : World) (ps : List (OA × Nat × Nat × LN)) (t : TypeId) (h : ∀ p ∈ ps, Bytes w w.heap.size p.1 p.2.1 p.2.2.2 /\ p.2.1 <= 1000000) :
  Parts (w.alloc (.cells (ps.map partVal).toArray t)) (w.heap.size + 1) (some ⟨w.heap.size, 0, none⟩) ps.length ps := by
 refine ⟨?_, fun p hp => ⟨((h p hp).1.alloc (kR _) _).more (by omega), (h p hp).2⟩⟩
 have := Reads.new w (ps.map partVal) t (0, 0)
 rwa [length_map] at this
theorem Parts.new1 (w : World) {c : Nat} (t : TypeId) (h : Bytes w w.heap.size A n bs) (hn : n <= 1000000) :
  Parts (w.alloc (.cells #[.slice A n c] t)) (w.heap.size + 1) (some ⟨w.heap.size, 0, none⟩) 1 [(A, n, c, bs)] :=
 Parts.new w [(A, n, c, bs)] t (fun p hp => by obtain rfl := mem_singleton.1 hp; exact ⟨h, hn⟩)
theorem textOf1 (A : OA) (n c : Nat) (bs : LN) : textOf [(A, n, c, bs)] = bs := by simp [textOf]
section
open Go.ChangeShapes Go.WideShapes Go.ChangeAt Go.RowKit
theorem own : ownKnob prog.godebug = none := by kernel_rfl
theorem laidOut : laidOutB prog = true := by kernel_rfl
theorem gTab : prog.globalNamed "lamina/crc.halves" = some 0 := by kernel_rfl
theorem gTabType : (prog.globals[0]?).map (·.type) = some 363 := by kernel_rfl
theorem cellsTab : prog.cellsOf 363 = 16 := by kernel_rfl
theorem cellsU32 : prog.cellsOf 303 = 1 := by kernel_rfl
theorem table {W : World} (h : laidMetH prog [("lamina/crc.halves", Rows.laid_lamina_crc_halves)] W) : Tab W := by
 have ht : Lib.TabIs prog W "lamina/crc.halves" .u32 [0, 274646895, 549293790, 820201905, 1098587580, 1361435347, 1640403810, 1905808397, 2197175160, 2460548119, 2722870694, 2987750089, 3280807620, 3553878443, 3811616794, 4084100981] :=
  Lib.tabIs_of_head (rest := []) gTab gTabType underlying363 underlying303 cellsU32 cellsTab h
 intro i hi
 rw [ht.cell gTab i (by simpa using hi)]
 congr 2
 have : ∀ i, i < 16 -> (([0, 274646895, 549293790, 820201905, 1098587580, 1361435347, 1640403810, 1905808397, 2197175160, 2460548119, 2722870694, 2987750089, 3280807620, 3553878443, 3811616794, 4084100981] : List Int).getD i 0) = (Crc.tab i : Int) := by decide +kernel
 exact this i hi
noncomputable def laidWorld (os : Os) : World :=
  { World.holding prog os ⟨#[], #[], []⟩ with heap := (World.holding prog os ⟨#[], #[], []⟩).heap.modify 0 fun
      | .cells _ t frozen => .cells #[.int .u32 0, .int .u32 274646895, .int .u32 549293790, .int .u32 820201905, .int .u32 1098587580, .int .u32 1361435347, .int .u32 1640403810, .int .u32 1905808397, .int .u32 2197175160, .int .u32 2460548119, .int .u32 2722870694, .int .u32 2987750089, .int .u32 3280807620, .int .u32 3553878443, .int .u32 3811616794, .int .u32 4084100981] t frozen
      | o => o }
end
def partsOf (n : Nat) : Nat := (n + 105) / 106
def areaOf (n : Nat) : Nat := (n - 2) / 3
def logOf (n : Nat) : Nat := n - 2 - 2 * areaOf n
theorem xFB (h : 0 < n) : partsOf n = (n - 1) / 106 + 1 := by unfold partsOf; omega
theorem xJZ (n : Nat) (h : 0 < n) : ((n : Int) - 1) / 106 + 1 = (partsOf n : Int) := by rw [xFB h]; omega
theorem xMQ (n : Nat) (h : 2 <= n) : ((n : Int) - 2) / 3 = (areaOf n : Int) := by unfold areaOf; omega
theorem xOY (n : Nat) (h : 2 <= n) : 2 * areaOf n <= n - 2 := by unfold areaOf; omega
theorem xPH (n : Nat) (h : 2 <= n) : (n : Int) - 2 - 2 * (areaOf n : Int) = (logOf n : Int) := by have := xOY n h; unfold logOf; omega
theorem x2K (n : Nat) (w : World) (hn : n <= 9223372036854775807) : Calls prog 95 #[.int .i64 n] w fun e w' => e = .returned (.int .i64 (partsOf n)) /\ w = w' := by
 by_cases h0 : n = 0
 ·subst h0
  go_enter func95, ntmps95
  go_wp2
  go_ret
  exact ⟨rfl, rfl⟩
 ·have hd : ((n : Int) == 0) = false := by simp; omega
  have h1 := xJZ n (by omega)
  have h2 : 0 <= (n : Int) - 1 := by omega
  go_enter func95, ntmps95
  go_wp2
  go_ret
  exact ⟨rfl, rfl⟩
theorem x6W (n : Nat) (w : World) (h2 : 2 <= n) (hn : n <= 4096) : Calls prog 94 #[.int .i64 n] w fun e w' => e = .returned (.agg #[.int .i64 (areaOf n), .int .i64 (logOf n)]) /\ Below w.heap.size w w' := by
 have h1 := xMQ n h2
 have h3 := xPH n h2
 have h4 : 0 <= (n : Int) - 2 := by omega
 go_enter func94, ntmps94
 go_wp2
 refine bodyPost_ret (results_cell_row rfl _ _ w.heap.size 173 _ (0, 0) _ rfl (kW w _ _) underlying173 rfl (by kernel_rfl)) rfl ?_
 exact ⟨rfl, (kB _ _).alloc (kR _) _⟩
theorem x3J (g : Nat) (w : World) : Calls prog 149 #[.int .i64 g] w fun e w' => e = .returned (.int .i64 (g % 2 : Nat)) /\ w = w' := by
 go_enter func149, ntmps149
 go_wp2
 go_ret
 exact ⟨x3A (by omega), rfl⟩
def stateAt (n g : Nat) : Nat := 2 + g % 2 * areaOf n
def logAt (n : Nat) : Nat := 2 + 2 * areaOf n
theorem x2M (h : n <= 4096) : areaOf n <= 1365 := by unfold areaOf; omega
theorem x8M (n g : Nat) (w : World) (hn : n <= 4096) : Calls prog 148 #[.agg #[.int .i64 (areaOf n), .int .i64 (logOf n)], .int .i64 g] w fun e w' => e = .returned (.int .i64 (stateAt n g)) /\ Below w.heap.size w w' := by
 have h1 := x2M hn
 have h2 : (g : Int) % 2 * (areaOf n : Int) = ((g % 2 * areaOf n : Nat) : Int) := by push_cast; rfl
 have h3 : g % 2 * areaOf n <= 1365 := by
  have : g % 2 = 0 ∨ g % 2 = 1 := by omega
  rcases this with h | h <;> rw [h] <;> omega
 unfold stateAt
 generalize hm : g % 2 * areaOf n = m at *
 go_enter func148, ntmps148
 go_wp2
 go_ret
 exact ⟨x3A (by omega), (kB _ _).alloc (kR _) _⟩
theorem x79 (n : Nat) (w : World) (hn : n <= 4096) : Calls prog 180 #[.agg #[.int .i64 (areaOf n), .int .i64 (logOf n)]] w fun e w' => e = .returned (.int .i64 (logAt n)) /\ Below w.heap.size w w' := by
 have h1 := x2M hn
 go_enter func180, ntmps180
 go_wp2
 go_ret
 exact ⟨x3A (by unfold logAt; omega), (kB _ _).alloc (kR _) _⟩
def needOf (n : Nat) : Nat := if n = 0 then 0 else partsOf n + 1
theorem x9E (n : Nat) (w : World) (hn : n <= 9223372036854775807) : Calls prog 155 #[.int .i64 n] w fun e w' => e = .returned (.int .i64 (needOf n)) /\ w = w' := by
 by_cases h0 : n = 0
 ·subst h0
  go_enter func155, ntmps155
  go_wp2
  go_ret
  exact ⟨rfl, rfl⟩
 ·have hd : decide ((n : Int) <= 0) = false := by simp; omega
  have h1 : partsOf n <= 87012943743912981 := by unfold partsOf; omega
  go_enter func155, ntmps155
  go_wp2_with fail
  refine (x2K n w hn).mono ?_
  rintro e w' ⟨rfl, rfl⟩
  go_wp2
  go_ret
  exact ⟨x3A (by unfold needOf; rw [if_neg h0]; omega), rfl⟩
def blkOf : OA -> LN
 | some a => [a.block]
 | none => []
theorem Keep.mono {X Y : LN} (h : Keep X w w') (hs : ∀ k ∈ Y, k ∈ X) : Keep Y w w' := ⟨h.1, fun k hk => h.2 k (hs k hk)⟩
theorem Reads.blk {B' size : Nat} {xs : List Value} (h : Reads w B size A n xs) (hk : ∀ k ∈ blkOf A, w'.heap[k]? = w.heap[k]?) (hB : B <= B') : Reads w' B' size A n xs :=
 ⟨h.1, fun hn => by
  obtain ⟨ad, rfl, hb, hc⟩ := h.2 hn
  exact ⟨ad, rfl, by omega, fun j u hu => (World.cell?_of_block (by rw [x0K]; exact hk _ (by simp [blkOf]))).trans (hc j u hu)⟩⟩
theorem x4T {ss : List Sec} (h : Reads w B 128 A ss.length (ss.flatMap Sec.cs)) (hk : k < ss.length) :
  ∃ ad s, A = some ad /\ ad.block < B /\ ss[k]? = some s /\ ∀ j u, s.cs[j]? = some u -> w.cell? ((ad.add (k * 128)).add j) = some u := by
 obtain ⟨ad, e, hb, hc⟩ := h.2 (by omega)
 have hx : ss[k]? = some (ss[k]'hk) := List.getElem?_eq_getElem hk
 refine ⟨ad, _, e, hb, hx, fun j u hj => ?_⟩
 have hlt : j < 128 := by
  rcases Nat.lt_or_ge j 128 with h' | h'
  ·exact h'
  ·rw [List.getElem?_eq_none (by rw [Sec.cs_len]; omega)] at hj; cases hj
 rw [x1Q]
 exact hc _ _ (by rw [x1K Sec.cs 128 (fun s => s.cs_len) ss k j _ hx hlt]; exact hj)
def DM.putRow : DM -> Nat -> List Sec -> DM × Nat
 | d, _, [] => (d.flush, d.stepErr)
 | d, i, s :: ss => if d.writeErr i = 0 then (d.write i s).putRow (i + 1) ss else (d.write i s, d.writeErr i)
structure Far (d : DM) (m : Nat) : Prop where
 steps : d.steps + m < 4611686018427387904
 left : d.left <= 9223372036854775807
 wait : d.wait.length + m <= 1000000
theorem Far.less (h : Far d m) (hn : n <= m) : Far d n := ⟨by have := h.steps; omega, h.left, by have := h.wait; omega⟩
theorem Far.step (h : Far d (m + 1)) : Far d.step m := by
 have h1 := h.steps
 have h2 := h.left
 have h3 := h.wait
 unfold DM.step
 split
 ·exact ⟨by show d.steps + m < _; omega, h2, by show d.wait.length + m <= _; omega⟩
 ·refine ⟨by show d.steps + 1 + m < _; omega, ?_, by show d.wait.length + m <= _; omega⟩
  show (if d.armed then d.left - 1 else d.left) <= _
  split <;> omega
theorem Far.write (h : Far d (m + 1)) (i : Int) (s : Sec) : Far (d.write i s) m := by
 unfold DM.write
 split
 ·split
  ·exact h.step
  ·have e := h.step
   have h3 := h.wait
   exact ⟨e.steps, e.left, by show (d.wait ++ [(i, s)]).length + m <= _; simp; omega⟩
 ·exact h.less (Nat.le_succ m)
theorem xI5 {X : LN} (h : Holds w0 w g d X) (A : OA) (c i : Nat) (ss : List Sec) (hA : ∀ k ∈ blkOf A, k ∈ X) (hR : Reads w w.heap.size 128 A ss.length (ss.flatMap Sec.cs)) (hf : Far d (ss.length + 1)) (hi : i + ss.length <= 1000000) :
    Calls prog 144 #[.agg #[.int .i64 i, .slice A ss.length c], .pointer (some ⟨g, 0, none⟩)] w fun e w' => e = .returned (errV (d.putRow i ss).2) /\ Holds w0 w' g (d.putRow i ss).1 X /\ Keep X w w' := by
  have H0 := kH (h.push (.cells #[.int .i64 i, .slice A ss.length c] 181))
  have hXl : ∀ k ∈ X, k < w.heap.size := by obtain ⟨F, h1, h2, h3⟩ := h; exact fun k hk => (h3 k hk).2
  have B0 := kH (kW w 181 #[.int .i64 i, .slice A ss.length c])
  have K0 := kH (Keep.below ((kB _ _).alloc (kR _) (.cells #[.int .i64 i, .slice A ss.length c] 181)) hXl)
  have HR := kH hR
  have HA := kH hA
  have HX := kH hXl
  clear h hR hA hXl
  obtain ⟨Zs, hz6, hzl⟩ : ∃ Zs : List Value, (∀ w, (zeroValue 66).run prog w = .ok (.agg Zs.toArray) w) /\ Zs.length = 128 := ⟨_, x0P, Sec.cs_len _⟩
  have hus := underlying66
  have hib : ∀ s : Sec, (prog.info? 66).map (·.size) = some s.cs.length := fun s => by rw [Sec.cs_len]; exact x0X
  go_enter func144, ntmps144
  go_wp2_with fail
  generalize hw1 : w.alloc (.cells #[.int .i64 i, .slice A ss.length c] 181) = w1 at *
  go_loopg [11] ss.length (fun gk j wr => ∃ (k : Nat) (d' : DM), k <= ss.length /\ gk = ss.length - k /\ j = .int .i64 k /\ Holds w0 wr g d' (w.heap.size :: X) /\ Keep (w.heap.size :: X) w1 wr /\ d'.putRow (i + k) (ss.drop k) = d.putRow i ss /\ Far d' (ss.length - k + 1))
  case atStart => exact ⟨0, d, by omega, by omega, rfl, H0.out, ⟨kR _, fun _ _ => rfl⟩, by simp, by simpa using hf⟩
  case round =>
    obtain ⟨k, d', hk, rfl, rfl, hd, hkp, hpr, hfar⟩ := hrel
    by_cases hlt : k < ss.length
    · have hR1 : Reads wr wr.heap.size 128 A ss.length (ss.flatMap Sec.cs) := HR.out.blk (fun q hq => by
        have := HA.out q hq
        rw [hkp.2 q (by simp [this])]
        exact K0.out.2 q this) (kT K0.out.1 hkp.1)
      obtain ⟨ad, s, rfl, hadb, hs, hc⟩ := x4T hR1 hlt
      have hdrop : ss.drop k = s :: ss.drop (k + 1) := by
        rw [drop_eq_getElem_cons hlt]
        congr 1
        exact Option.some.inj ((List.getElem?_eq_getElem hlt).symm.trans hs)
      have hunf : (d'.putRow (i + k) (ss.drop k)) = if d'.writeErr (i + k : Nat) = 0 then (d'.write (i + k : Nat) s).putRow (i + k + 1) (ss.drop (k + 1)) else (d'.write (i + k : Nat) s, d'.writeErr (i + k : Nat)) := by
        rw [hdrop]; rfl
      rw [hpr] at hunf
      have hfar' : Far d' ((ss.length - (k + 1) + 1) + 1) := hfar.less (by omega)
      have hfw := hfar'.write ((i + k : Nat) : Int) s
      have BX := kH (kW wr 66 s.cs.toArray)
      have DX := kH (hd.push (.cells s.cs.toArray 66))
      have BR := kH ((hkp.blk (by simp) B0.out).alloc (.cells s.cs.toArray 66))
      have hlr := (hkp.blk (by simp) B0.out).lt
      have hX1 : ∀ q ∈ w.heap.size :: X, q < wr.heap.size := by
        intro q hq
        rcases kQ hq with rfl | hq
        · exact hlr
        · exact kL (HX.out q hq) (kT K0.out.1 hkp.1)
      have KX := kH (hkp.trans (Keep.below ((kB _ _).alloc (kR _) (.cells s.cs.toArray 66)) hX1))
      have q0 : (wr.alloc (.cells s.cs.toArray 66)).cell? ⟨w.heap.size, 0, none⟩ = some (.int .i64 i) := BR.out.cell 0
      have hsum : ((i + k : Nat) : Int) = (i : Int) + (k : Int) := by omega
      rw [hsum] at hunf hfw
      have HUN := kH hunf
      have HFW := kH hfw
      have hst := hfar.steps
      have hlf := hfar.left
      have hwt := hfar.wait
      clear hd hkp hpr hfar hR1 hs hdrop hunf hfw hX1 hfar' hsum
      go_wp2_with (first
        | (refine x20 rfl 66 (.tmp 14) rfl _ rfl s.cs _ hc hus rfl (hib s) ?_)
        | (refine x07 rfl 66 (.tmp 6) (.tmp 15) rfl wr.heap.size rfl s.cs Zs.toArray rfl rfl (hib s) (by simp [Sec.cs_len, hzl]) s.one ?_)
        | (refine wpList_load_mid rfl 66 (.tmp 6) rfl wr.heap.size 0 rfl s.cs _ BX.out.range hus rfl (hib s) ?_))
      refine (xHM DX.out ((i : Int) + (k : Int)) s (by omega) hlf (by omega)).mono ?_
      rintro e w6 ⟨rfl, h6, k6⟩
      have H6 := kH (h6.mono (Y := w.heap.size :: X) (fun q hq => kM _ hq))
      have K6 := kH (KX.out.trans (k6.mono (Y := w.heap.size :: X) (fun q hq => kM _ hq)))
      clear h6 k6 q0
      cases hwe : d'.writeErr ((i : Int) + (k : Int)) with
      | zero =>
        have HWE := kH hwe
        clear hwe
        simp only [errV]
        go_wp2
        go_roundg (ss.length - (k + 1))
        case measure => omega
        case rel =>
          refine ⟨k + 1, _, by omega, rfl, by go_num, H6.out, K6.out, ?_, HFW.out⟩
          rw [HUN.out, if_pos HWE.out]
          rfl
      | succ n =>
        have HWE := kH hwe
        clear hwe
        simp only [errV]
        go_wp2
        go_ret
        have e := HUN.out
        rw [if_neg (by rw [HWE.out]; omega)] at e
        rw [e]
        refine ⟨by rw [HWE.out]; rfl, H6.out.mono (fun q hq => kM _ hq), K0.out.trans (K6.out.mono (fun q hq => kM _ hq))⟩
    · obtain rfl : k = ss.length := by omega
      rw [drop_length] at hpr
      have hse : d.putRow i ss = (d'.flush, d'.stepErr) := hpr.symm
      have hst := hfar.steps
      have hlf := hfar.left
      have hwt := hfar.wait
      have HD := kH hd
      clear hd
      go_wp2_with fail
      refine (xGY HD.out (by omega) hlf (by omega)).mono ?_
      rintro e w6 ⟨rfl, h6, k6⟩
      have HS := kH hse
      have H6 := kH h6
      have K6 := kH k6
      clear h6 k6 hse
      go_wp2
      go_ret
      rw [HS.out]
      exact ⟨rfl, H6.out.mono (fun q hq => kM _ hq), K0.out.trans (Keep.mono (hkp.trans K6.out) (fun q hq => kM _ hq))⟩
theorem x7A (w : World) (base : Nat) (F : LN) (p : OA) (bs : LN) (b : Nat) (h : Wr w base F p bs) (hl : bs.length <= 9000000) (hB : base <= w.heap.size) (hb : b < 256) :
  Calls prog 159 #[.pointer p, .int .u8 b] w fun e w' => e = .returned (.tuple #[]) /\ WTo w base F p (plus p bs [b]) w' := by
 go_enter func159, ntmps159
 go_wp2_with fail
 have B1 := x0D w (.cells (u8s [b]).toArray 5)
 refine (x7W _ base F p bs [b] _ _ 1 1 (h.below B1) (Bytes.new w [b] 5 (0, 0) (by simpa using hb)) (by omega) (kT hB B1.size)).mono ?_
 rintro e w2 ⟨rfl, h2⟩
 go_wp2
 refine kZ (results_none rfl _ _ _) rfl ?_
 exact ⟨rfl, h2.since B1⟩
theorem Sec.info (s : Sec) : (prog.info? 66).map (·.size) = some s.cs.length := by rw [s.cs_len]; exact x0X
theorem Sec.infoA (s : Sec) : (prog.info? 66).map (·.size) = some s.cs.toArray.size := by rw [size_toArray]; exact s.info
theorem xLW {s : Sec} (hg : Blk w g 66 s.cs.toArray) : (loadVar 66 ⟨g, 0, none⟩).run prog w = .ok s.v w :=
  run_loadVar_row w g 66 66 s.cs.toArray (0, 0) _ hg underlying66 rfl s.infoA
theorem x4E {fn : Func} {p u : Tmp} (h : fn.results = #[.cell p 66, .tmp u]) (tmps : Array Value) (w : World) (g : Nat) (s : Sec) (v : Value) (hp : tmps.getD p undef = .pointer (some ⟨g, 0, none⟩)) (hv : tmps.getD u undef = v) (hg : Blk w g 66 s.cs.toArray) :
  (results fn tmps).run prog w = .ok (.tuple #[s.v, v]) w := by
 rw [results_cell_tmp h, hp, hv]
 simp [asAddr, xLW hg, Result.andThen]
theorem xDC {fn : Func} {p : Tmp} (h : fn.results = #[.cell p 66]) (tmps : Array Value) (w : World) (g : Nat) (s : Sec) (hp : tmps.getD p undef = .pointer (some ⟨g, 0, none⟩)) (hg : Blk w g 66 s.cs.toArray) :
  (results fn tmps).run prog w = .ok s.v w :=
 results_cell_row h tmps w g 66 s.cs.toArray (0, 0) _ hp hg underlying66 rfl s.infoA
theorem x8Q {o : Oper} {K : Act -> World -> Prop} (x y : Operand) (ho : o.op = .call {callee := .builtin .copy, args := #[x, y], argTypes := #[35, 35] })
 (gb off m mc : Nat) (t : TypeId) (cur : LN) (hg : Blk w gb t (u8s cur).toArray) (hx : a.eval x = .slice (some ⟨gb, off, none⟩) m mc) (A : OA) (k c B : Nat) (bs : LN) (hy : a.eval y = .slice A k c) (hb : Bytes w B A k bs) (hk : k <= m) (hfit : off + k <= cur.length)
  (h : ∀ w', Blk w' gb t (u8s (cur.take off ++ bs ++ cur.drop (off + k))).toArray -> Only [gb] w w' -> K (a.put o.dst (goInt k)) w') : o.wp prog a w K Q := by
 have hl : (u8s bs).length = k := by rw [x0C, hb.len]
 rcases Nat.eq_zero_or_pos k with h0 | hm
 ·subst h0
  have hbs : bs = [] := eq_nil_of_length_eq_zero hb.len
  subst hbs
  have hrun := run_copy_none (P := prog) w 35 35 o.type 5 (some ⟨gb, off, none⟩) A m mc 0 c underlying35 x3S (Nat.zero_min m)
  unfold Oper.wp
  simp [execOp, ho, resolve, invoke, builtin, hx, hy, hrun, Result.andThen]
  exact h w (by rw [append_nil, Nat.add_zero, take_append_drop]; exact hg) (kU _ _)
 ·obtain ⟨ad, rfl, hB, hc⟩ := hb.1.2 hm
  have hrun := run_copy_row (P := prog) w 35 35 o.type 5 gb off m mc ad k c (u8s cur).toArray t (u8s bs) underlying35 x3S hg (by rw [hl]; exact (Nat.min_eq_left hk).symm) hc (by rw [hl]; simp [u8s]; omega) (x1W _)
  unfold Oper.wp
  simp [execOp, ho, resolve, invoke, builtin, hx, hy, hrun, Result.andThen]
  rw [hl]
  refine h _ ?_ ?_
  ·have := setRow_heap w gb (u8s cur).toArray ((u8s cur).take off ++ u8s bs ++ (u8s cur).drop (off + k)).toArray t (0, 0) hg
   unfold Blk
   have e : u8s (cur.take off ++ bs ++ cur.drop (off + k)) = (u8s cur).take off ++ u8s bs ++ (u8s cur).drop (off + k) := by simp [u8s, map_append, map_take, map_drop]
   rw [e]
   simpa using this
  ·exact ⟨rfl, rfl, rfl, by simp [World.setRow], fun j hj hn => setRow_other w gb j _ (fun e => hn (by simp [e]))⟩
theorem Blk.bytes {off : Nat} {l : LN} (h : Blk w g t (u8s l).toArray) (hn : off + n <= l.length) (hl : ∀ b ∈ l, b < 256) : Bytes w w.heap.size (some ⟨g, off, none⟩) n ((l.drop off).take n) := by
 refine ⟨⟨by rw [x0C, length_take, length_drop]; omega, fun _ => ⟨_, rfl, h.lt, fun j u hu => ?_⟩⟩, fun b hb => hl b (mem_of_mem_drop (mem_of_mem_take hb))⟩
 have e : (⟨g, off, none⟩ : Addr).add j = ⟨g, off + j, none⟩ := by
  unfold Addr.add
  split
  ·simp_all
  ·simp
 rw [e, h.cell]
 simp only [u8s, map_take, map_drop] at hu
 rw [List.getElem?_take] at hu
 split at hu
 ·rw [List.getElem?_drop] at hu
  simpa [u8s] using hu
 ·cases hu
theorem xEF (n : Int) (rest : LN) (h1 : -9223372036854775808 <= n) (h2 : n <= 9223372036854775807) : (⟨numB n ++ rest, false⟩ : RD).take 8 = ⟨rest, false⟩ /\ (⟨numB n ++ rest, false⟩ : RD).num = n := by
 obtain ⟨e1, e2⟩ := RD.take_fit (s := ⟨numB n ++ rest, false⟩) (k := 8) rfl (by simp [x04])
 refine ⟨e1.trans (by rw [drop_left' (x04 n)]), ?_⟩
 have : (⟨numB n ++ rest, false⟩ : RD).num = numOf ((⟨numB n ++ rest, false⟩ : RD).got 8) := rfl
 rw [this]
 exact (congrArg numOf (e2.trans (take_left' (x04 n)))).trans (x3X n h1 h2)
theorem xPF (b rest : LN) : (⟨b ++ rest, false⟩ : RD).take (b.length : Nat) = ⟨rest, false⟩ /\ (⟨b ++ rest, false⟩ : RD).got (b.length : Nat) = b := by
 obtain ⟨e1, e2⟩ := RD.take_fit (s := ⟨b ++ rest, false⟩) (k := b.length) rfl (by simp)
 exact ⟨e1.trans (by rw [drop_left' rfl]), e2.trans (take_left' rfl)⟩
theorem xCP (b : Nat) (rest : LN) : (⟨b :: rest, false⟩ : RD).take 1 = ⟨rest, false⟩ /\ (⟨b :: rest, false⟩ : RD).byte = b := by
 have h := xPF [b] rest
 refine ⟨h.1, ?_⟩
 have : (⟨b :: rest, false⟩ : RD).byte = ((⟨b :: rest, false⟩ : RD).got 1).headD 0 := rfl
 rw [this, show (⟨b :: rest, false⟩ : RD).got 1 = [b] from h.2]
 rfl
def isBoxB (k g n : Int) : Bool := decide (1 <= k /\ k <= 255 /\ 0 <= g /\ g <= 4611686018427387904 /\ 0 <= n /\ n <= 2147483647)
def headOf (k g n : Int) (m : Nat) : LN := [(k % 256).toNat] ++ numB g ++ numB n ++ [m]
theorem x24 (k g n : Int) (m : Nat) : (headOf k g n m).length = 18 := by simp [headOf, x04]
def bodyOf (k g n : Int) (d : LN) : LN := headOf k g n d.length ++ d ++ List.replicate (106 - d.length) 0
theorem x34 (k g n : Int) (d : LN) (h : d.length <= 106) : (bodyOf k g n d).length = 124 := by simp [bodyOf, x24]; omega
theorem xB8 (k g n : Int) (m : Nat) (hm : m < 256) : ∀ b ∈ headOf k g n m, b < 256 := by
 intro b hb
 simp only [headOf, mem_append, mem_singleton] at hb
 rcases hb with ((rfl | hb) | hb) | rfl
 ·omega
 ·exact x0Y _ b hb
 ·exact x0Y _ b hb
 ·exact hm
theorem x6O (k g n : Int) (d : LN) (h : d.length <= 106) (hd : ∀ b ∈ d, b < 256) : ∀ b ∈ bodyOf k g n d, b < 256 := by
 intro b hb
 simp only [bodyOf, mem_append, mem_replicate] at hb
 rcases hb with (hb | hb) | ⟨_, rfl⟩
 ·exact xB8 k g n d.length (by omega) b hb
 ·exact hd b hb
 ·omega
def sealL (k g n : Int) (d : LN) : LN := le 4 (Crc.sum (bodyOf k g n d)) ++ bodyOf k g n d
theorem xBW (k g n : Int) (d : LN) (h : d.length <= 106) : (sealL k g n d).length = 128 := by simp [sealL, x1H, x34 k g n d h]
theorem xLG (k g n : Int) (d : LN) (h : d.length <= 106) (hd : ∀ b ∈ d, b < 256) : ∀ b ∈ sealL k g n d, b < 256 := by
 intro b hb
 rcases mem_append.1 hb with hb | hb
 ·exact xGZ _ _ b hb
 ·exact x6O k g n d h hd b hb
def sealSec (k g n : Int) (d : LN) (h : d.length <= 106) (hd : ∀ b ∈ d, b < 256) : Sec := ⟨sealL k g n d, xBW k g n d h, xLG k g n d h hd⟩
def told0 (l : LN) : RD := ⟨l.drop 4, false⟩
def told1 (l : LN) : RD := (told0 l).take 1
def told2 (l : LN) : RD := (told1 l).take 8
def told3 (l : LN) : RD := (told2 l).take 8
def tK (l : LN) : Int := ((told0 l).byte : Nat)
def tG (l : LN) : Int := (told1 l).num
def tN (l : LN) : Int := (told2 l).num
def tC (l : LN) : Nat := (told3 l).byte
def tD (l : LN) : LN := (l.drop 22).take (min (tC l) 106)
theorem x5C (l : LN) : (tD l).length <= 106 := by unfold tD; rw [length_take]; omega
theorem xPJ (l : LN) (h : l.length = 128) : (tD l).length = min (tC l) 106 := by unfold tD; rw [length_take, length_drop]; omega
theorem x2Q (l : LN) (h : ∀ b ∈ l, b < 256) : ∀ b ∈ tD l, b < 256 := fun b hb => h b (mem_of_mem_drop (mem_of_mem_take hb))
def isSealed (l : LN) : Bool := isBoxB (tK l) (tG l) (tN l) && (sealL (tK l) (tG l) (tN l) (tD l) == l)
theorem x4U (k g n : Int) (d : LN) (hb : isBoxB k g n = true) (h : d.length <= 106) : tK (sealL k g n d) = k /\ tG (sealL k g n d) = g /\ tN (sealL k g n d) = n /\ tC (sealL k g n d) = d.length /\ tD (sealL k g n d) = d := by
 simp only [isBoxB, decide_eq_true_eq] at hb
 obtain ⟨h1, h2, h3, h4, h5, h6⟩ := hb
 have e0 : told0 (sealL k g n d) = ⟨(k % 256).toNat :: (numB g ++ (numB n ++ (d.length :: (d ++ List.replicate (106 - d.length) 0)))), false⟩ := by
  unfold told0 sealL
  rw [drop_left' (x1H 4 _)]
  simp [bodyOf, headOf]
 obtain ⟨a1, a2⟩ := xCP (k % 256).toNat (numB g ++ (numB n ++ (d.length :: (d ++ List.replicate (106 - d.length) 0))))
 obtain ⟨b1, b2⟩ := xEF g (numB n ++ (d.length :: (d ++ List.replicate (106 - d.length) 0))) (by omega) (by omega)
 obtain ⟨c1, c2⟩ := xEF n (d.length :: (d ++ List.replicate (106 - d.length) 0)) (by omega) (by omega)
 obtain ⟨d1, d2⟩ := xCP d.length (d ++ List.replicate (106 - d.length) 0)
 have e1 : told1 (sealL k g n d) = _ := (congrArg (fun s => RD.take s 1) e0).trans a1
 have e2 : told2 (sealL k g n d) = _ := (congrArg (fun s => RD.take s 8) e1).trans b1
 have e3 : told3 (sealL k g n d) = _ := (congrArg (fun s => RD.take s 8) e2).trans c1
 have hC : tC (sealL k g n d) = d.length := (congrArg RD.byte e3).trans d2
 refine ⟨?_, (congrArg RD.num e1).trans b2, (congrArg RD.num e2).trans c2, hC, ?_⟩
 ·show (((told0 (sealL k g n d)).byte : Nat) : Int) = k
  rw [e0, a2]
  omega
 ·unfold tD
  rw [hC, Nat.min_eq_left h]
  have : (sealL k g n d).drop 22 = d ++ List.replicate (106 - d.length) 0 := by
   unfold sealL bodyOf
   rw [show (22 : Nat) = 4 + 18 from rfl, <- drop_drop, drop_left' (x1H 4 _), append_assoc, drop_left' (x24 k g n _)]
  rw [this, take_left' rfl]
theorem x6G (k g n : Int) (d : LN) (hb : isBoxB k g n = true) (h : d.length <= 106) : isSealed (sealL k g n d) = true := by
 obtain ⟨h1, h2, h3, h4, h5⟩ := x4U k g n d hb h
 unfold isSealed
 rw [h1, h2, h3, h5, hb]
 simp
theorem x78 (l : LN) (h : isSealed l = true) : sealL (tK l) (tG l) (tN l) (tD l) = l /\ isBoxB (tK l) (tG l) (tN l) = true := by
 simp only [isSealed, Bool.and_eq_true, beq_iff_eq] at h
 exact ⟨h.2, h.1⟩
theorem xFE {a b : Nat} (h : a ^^^ b = a) : b = 0 := by
 have : a ^^^ (a ^^^ b) = a ^^^ a := by rw [h]
 rwa [<- Nat.xor_assoc, Nat.xor_self, Nat.zero_xor] at this
theorem x1O (t u : LN) (j : Nat) (h : u[j]? = t[j]?) : u.set j (t.getD j 0 ^^^ 0) = u := by
  apply ext_getElem?
  intro i
  rw [List.getElem?_set]
  by_cases hj : j = i
  · subst hj
    rw [if_pos rfl]
    by_cases hl : j < u.length
    · have hl' : j < t.length := by
        rcases Nat.lt_or_ge j t.length with h' | h'
        · exact h'
        · rw [List.getElem?_eq_none h', List.getElem?_eq_getElem hl] at h; cases h
      rw [if_pos hl, h, getD_eq_getElem?_getD, List.getElem?_eq_getElem hl']
      simp
    · rw [if_neg hl, List.getElem?_eq_none (by omega)]
  · rw [if_neg hj]
theorem xPB (t : LN) (k c : Nat) (hc : c < 256) : Crc.chg t k c 4 = t.set k (t.getD k 0 ^^^ c) := by
 have p0 : Crc.part c 0 = c := by simp [Crc.part]; omega
 have p1 : Crc.part c 1 = 0 := by unfold Crc.part; rw [Nat.div_eq_of_lt (by omega)]
 have p2 : Crc.part c 2 = 0 := by unfold Crc.part; rw [Nat.div_eq_of_lt (by omega)]
 have p3 : Crc.part c 3 = 0 := by unfold Crc.part; rw [Nat.div_eq_of_lt (by omega)]
 simp only [Crc.chg, p0, p1, p2, p3, Nat.add_zero]
 rw [x1O t _ (k + 1) (by rw [List.getElem?_set_ne (by omega)]), x1O t _ (k + 2) (by rw [List.getElem?_set_ne (by omega)]), x1O t _ (k + 3) (by rw [List.getElem?_set_ne (by omega)])]
theorem xNB (t : LN) (k m c : Nat) (hc : c < 256) (hm : m = 1 ∨ m = 2 ∨ m = 3) : Crc.chg t k (c * 256 ^ m) 4 = t.set (k + m) (t.getD (k + m) 0 ^^^ c) := by
 rcases hm with rfl | rfl | rfl
 ·have p0 : Crc.part (c * 256 ^ 1) 0 = 0 := by simp [Crc.part]
  have p1 : Crc.part (c * 256 ^ 1) 1 = c := by simp [Crc.part]; omega
  have p2 : Crc.part (c * 256 ^ 1) 2 = 0 := by unfold Crc.part; rw [Nat.div_eq_of_lt (by omega)]
  have p3 : Crc.part (c * 256 ^ 1) 3 = 0 := by unfold Crc.part; rw [Nat.div_eq_of_lt (by omega)]
  simp only [Crc.chg, p0, p1, p2, p3, Nat.add_zero]
  rw [x1O t t k rfl, x1O t _ (k + 2) (by rw [List.getElem?_set_ne (by omega)]), x1O t _ (k + 3) (by rw [List.getElem?_set_ne (by omega)])]
 ·have p0 : Crc.part (c * 256 ^ 2) 0 = 0 := by unfold Crc.part; omega
  have p1 : Crc.part (c * 256 ^ 2) 1 = 0 := by unfold Crc.part; omega
  have p2 : Crc.part (c * 256 ^ 2) 2 = c := by unfold Crc.part; omega
  have p3 : Crc.part (c * 256 ^ 2) 3 = 0 := by unfold Crc.part; rw [Nat.div_eq_of_lt (by omega)]
  simp only [Crc.chg, p0, p1, p2, p3, Nat.add_zero]
  rw [x1O t t k rfl, x1O t t (k + 1) rfl, x1O t _ (k + 3) (by rw [List.getElem?_set_ne (by omega)])]
 ·have p0 : Crc.part (c * 256 ^ 3) 0 = 0 := by unfold Crc.part; omega
  have p1 : Crc.part (c * 256 ^ 3) 1 = 0 := by unfold Crc.part; omega
  have p2 : Crc.part (c * 256 ^ 3) 2 = 0 := by unfold Crc.part; omega
  have p3 : Crc.part (c * 256 ^ 3) 3 = c := by unfold Crc.part; omega
  simp only [Crc.chg, p0, p1, p2, p3, Nat.add_zero]
  rw [x1O t t k rfl, x1O t t (k + 1) rfl, x1O t t (k + 2) rfl]
theorem xMF (t : LN) (j c : Nat) (ht : t.length = 124) (hj : j < 124) (h0 : 0 < c) (hc : c < 256) (hb : ∀ b ∈ t, b < 256) : Crc.sum (t.set j (t.getD j 0 ^^^ c)) ≠ Crc.sum t := by
 by_cases h : j <= 120
 ·rw [<- xPB t j c hc]
  exact Crc.finds_chg t j c (by omega) h0 (by omega) hb
 ·obtain ⟨m, hm, rfl⟩ : ∃ m, (m = 1 ∨ m = 2 ∨ m = 3) /\ j = 120 + m := ⟨j - 120, by omega, by omega⟩
  rw [<- xNB t 120 m c hc hm]
  refine Crc.finds_chg t 120 _ (by omega) (Nat.mul_pos h0 (Nat.pow_pos (by omega))) ?_ hb
  rcases hm with rfl | rfl | rfl <;> omega
theorem turned (k g n : Int) (d : LN) (h : d.length <= 106) (hd : ∀ b ∈ d, b < 256) (i c : Nat) (hi : i < 128) (h0 : 0 < c) (hc : c < 256) : isSealed ((sealL k g n d).set i ((sealL k g n d).getD i 0 ^^^ c)) = false := by
  cases hs : isSealed ((sealL k g n d).set i ((sealL k g n d).getD i 0 ^^^ c)) with
  | false => rfl
  | true =>
    exfalso
    obtain ⟨h1, h2⟩ := x78 _ hs
    generalize hl' : (sealL k g n d).set i ((sealL k g n d).getD i 0 ^^^ c) = l' at *
    have hlen := xBW k g n d h
    have hbody := x34 k g n d h
    have hdl : l'.drop 4 = bodyOf (tK l') (tG l') (tN l') (tD l') := by
      conv => lhs; rw [<- h1]
      unfold sealL
      rw [drop_left' (x1H 4 _)]
    have htl : l'.take 4 = le 4 (Crc.sum (bodyOf (tK l') (tG l') (tN l') (tD l'))) := by
      conv => lhs; rw [<- h1]
      unfold sealL
      rw [take_left' (x1H 4 _)]
    rcases Nat.lt_or_ge i 4 with h4 | h4
    · have e : l'.drop 4 = bodyOf k g n d := by
        rw [<- hl', List.drop_set_of_lt h4]
        unfold sealL
        rw [drop_left' (x1H 4 _)]
      rw [<- hdl, e] at htl
      have e2 : l' = sealL k g n d := by
        rw [<- take_append_drop 4 l', htl, e]
        rfl
      have e3 : l'[i]? = some ((sealL k g n d).getD i 0 ^^^ c) := by
        rw [<- hl', List.getElem?_set_self (by omega)]
      rw [e2] at e3
      have e4 : (sealL k g n d)[i]? = some ((sealL k g n d).getD i 0) := by
        rw [getD_eq_getElem?_getD, List.getElem?_eq_getElem (by omega)]
        rfl
      rw [e4] at e3
      injection e3 with e3
      have := xFE e3.symm
      omega
    · have e : l'.drop 4 = (bodyOf k g n d).set (i - 4) ((bodyOf k g n d).getD (i - 4) 0 ^^^ c) := by
        rw [<- hl', List.drop_set, if_neg (by omega)]
        have : (sealL k g n d).drop 4 = bodyOf k g n d := by unfold sealL; rw [drop_left' (x1H 4 _)]
        rw [this]
        congr 2
        unfold sealL
        rw [getD_eq_getElem?_getD, getD_eq_getElem?_getD, List.getElem?_append_right (by rw [x1H]; omega), x1H]
      have et : l'.take 4 = le 4 (Crc.sum (bodyOf k g n d)) := by
        rw [<- hl', List.take_set_of_le h4]
        unfold sealL
        rw [take_left' (x1H 4 _)]
      rw [et, <- hdl, e] at htl
      have hsum := congrArg un htl
      have hs1 : Crc.sum (bodyOf k g n d) < 256 ^ 4 := Crc.go_lt _ _
      have hs2 : Crc.sum ((bodyOf k g n d).set (i - 4) ((bodyOf k g n d).getD (i - 4) 0 ^^^ c)) < 256 ^ 4 := Crc.go_lt _ _
      rw [xCM 4 _ hs1, xCM 4 _ hs2] at hsum
      exact xMF (bodyOf k g n d) (i - 4) c hbody (by omega) h0 hc (x6O k g n d h hd) hsum.symm
theorem x6T (k g n : Int) (w : World) : Calls prog 246 #[.int .i64 k, .int .i64 g, .int .i64 n] w fun e w' => e = .returned (.bool (isBoxB k g n)) /\ w = w' := by
 by_cases h1 : 1 <= k
 case neg =>
  have hb : isBoxB k g n = false := by unfold isBoxB; exact decide_eq_false (by omega)
  rw [hb]
  have hd0 : decide (1 <= k) = false := decide_eq_false h1
  clear hb h1
  go_enter func246, ntmps246
  go_wp2
  go_ret
  exact ⟨rfl, rfl⟩
 have hd0 : decide (1 <= k) = true := decide_eq_true h1
 by_cases h2 : k <= 255
 case neg =>
  have hb : isBoxB k g n = false := by unfold isBoxB; exact decide_eq_false (by omega)
  rw [hb]
  have hd1 : decide (k <= 255) = false := decide_eq_false h2
  clear hb h2
  go_enter func246, ntmps246
  go_wp2
  go_ret
  exact ⟨rfl, rfl⟩
 have hd1 : decide (k <= 255) = true := decide_eq_true h2
 by_cases h3 : 0 <= g
 case neg =>
  have hb : isBoxB k g n = false := by unfold isBoxB; exact decide_eq_false (by omega)
  rw [hb]
  have hd2 : decide (0 <= g) = false := decide_eq_false h3
  clear hb h3
  go_enter func246, ntmps246
  go_wp2
  go_ret
  exact ⟨rfl, rfl⟩
 have hd2 : decide (0 <= g) = true := decide_eq_true h3
 by_cases h4 : g <= 4611686018427387904
 case neg =>
  have hb : isBoxB k g n = false := by unfold isBoxB; exact decide_eq_false (by omega)
  rw [hb]
  have hd3 : decide (g <= 4611686018427387904) = false := decide_eq_false h4
  clear hb h4
  go_enter func246, ntmps246
  go_wp2
  go_ret
  exact ⟨rfl, rfl⟩
 have hd3 : decide (g <= 4611686018427387904) = true := decide_eq_true h4
 by_cases h5 : 0 <= n
 case neg =>
  have hb : isBoxB k g n = false := by unfold isBoxB; exact decide_eq_false (by omega)
  rw [hb]
  have hd4 : decide (0 <= n) = false := decide_eq_false h5
  clear hb h5
  go_enter func246, ntmps246
  go_wp2
  go_ret
  exact ⟨rfl, rfl⟩
 have hd4 : decide (0 <= n) = true := decide_eq_true h5
 by_cases h6 : n <= 2147483647
 case neg =>
  have hb : isBoxB k g n = false := by unfold isBoxB; exact decide_eq_false (by omega)
  rw [hb]
  have hd5 : decide (n <= 2147483647) = false := decide_eq_false h6
  clear hb h6
  go_enter func246, ntmps246
  go_wp2
  go_ret
  exact ⟨rfl, rfl⟩
 have hd5 : decide (n <= 2147483647) = true := decide_eq_true h6
 have hb : isBoxB k g n = true := by unfold isBoxB; exact decide_eq_true (by omega)
 rw [hb]
 clear hb
 go_enter func246, ntmps246
 go_wp2
 go_ret
 exact ⟨rfl, rfl⟩
theorem x8O (w : World) : (zeroValue 117).run prog w = .ok (.agg #[.slice none 0 0]) w := by kernel_rfl
theorem Wr.made (w : World) : Wr (w.alloc (.cells #[.slice none 0 0] 117)) w.heap.size [w.heap.size] (some ⟨w.heap.size, 0, none⟩) [] :=
  .inr ⟨_, rfl, .slice none 0 0, by simp [rowOf, Value.ownBlock], kW _ _ _, Own.nil _ _, kR _, fun b hb => by cases hb⟩
theorem Tab.low (h : Tab w) (hb : Below B w w') (hB : 0 < B) : Tab w' := fun i hi => (hb.cell (p := ⟨0, i, none⟩) hB).trans (h i hi)
theorem xOA (k g n : Int) (d : LN) (m : Nat) (hm : d.length = m) : (List.replicate 128 0).take 4 ++ headOf k g n m ++ (List.replicate 128 0).drop (4 + 18) = List.replicate 4 0 ++ headOf k g n d.length ++ List.replicate 106 0 := by
 subst hm
 rw [List.take_replicate, drop_replicate]
 rfl
theorem xPM (k g n : Int) (d : LN) (h : d.length <= 106) : (List.replicate 4 0 ++ headOf k g n d.length ++ List.replicate 106 0).take 22 ++ d ++ (List.replicate 4 0 ++ headOf k g n d.length ++ List.replicate 106 0).drop (22 + d.length) = List.replicate 4 0 ++ bodyOf k g n d := by
 have hl : (List.replicate 4 0 ++ headOf k g n d.length).length = 22 := by simp [x24]
 rw [take_left' hl, <- drop_drop, drop_left' hl, drop_replicate]
 simp [bodyOf]
theorem xN5 (s j : Nat) (l : LN) (hj : j < 4) : (le j s ++ List.replicate (4 - j) 0 ++ l).set j (s / 256 ^ j % 256) = le (j + 1) s ++ List.replicate (4 - (j + 1)) 0 ++ l := by
 obtain ⟨r, hr⟩ : ∃ r, 4 - j = r + 1 := ⟨3 - j, by omega⟩
 rw [hr, show 4 - (j + 1) = r by omega, xGI, replicate_succ, append_assoc, set_append_right _ _ (by rw [x1H]; omega), x1H, Nat.sub_self]
 simp
theorem xPD (l : LN) (j b : Nat) : (u8s l).toArray.setIfInBounds j (.int .u8 b) = (u8s (l.set j b)).toArray := by
  simp [u8s, u8]
theorem xQC {l : LN} {j b : Nat} (h : l[j]? = some b) : (u8s l).toArray[j]? = some (.int .u8 b) := by simp [u8s, u8, h]
theorem xPN (s j : Nat) (l : LN) (hj : j < 4) : (le j s ++ List.replicate (4 - j) 0 ++ l)[j]? = some 0 := by
  rw [append_assoc, List.getElem?_append_right (by rw [x1H]; omega), x1H, Nat.sub_self, List.getElem?_append_left (by simp; omega), List.getElem?_replicate, if_pos (by omega)]
theorem xLV (s j : Nat) : (s : Int) / 2 ^ (8 * j) % 256 = ((s / 256 ^ j % 256 : Nat) : Int) := by
 rw [show (256 : Nat) ^ j = 2 ^ (8 * j) from by rw [Nat.pow_mul]]
 simp
structure SW (w0 w : World) (base : Nat) (F : LN) (gw : Nat) (bs : LN) (gb : Nat) (t : TypeId) (cs : Array Value) (gr : Nat) (t' : TypeId) (zs : Array Value) : Prop where
 wr : Wr w base F (some ⟨gw, 0, none⟩) bs
 bel : Below w0.heap.size w0 w
 box : Blk w gb t cs
 ans : Blk w gr t' zs
 lt : gb < base /\ gr < base /\ w0.heap.size <= base /\ base <= w.heap.size
theorem SW.step {base : Nat} {gw : Nat} {bs' : LN} {gb : Nat} {cs : Array Value} {t' : TypeId} {zs : Array Value} (h : SW w0 w base F gw bs gb t cs gr t' zs) (r : WTo w base F (some ⟨gw, 0, none⟩) bs' w') : ∃ F', SW w0 w' base F' gw bs' gb t cs gr t' zs := by
 obtain ⟨F', h1, h2, h3⟩ := r
 obtain ⟨l1, l2, l3, l4⟩ := h.lt
 have hb : Below base w w' := h2.below h.wr.over l4
 exact ⟨F', h1, h.bel.trans (hb.mono l3), h.box.below hb l1, h.ans.below hb l2, l1, l2, l3, kT l4 h2.size⟩
theorem SW.below {base : Nat} {gw : Nat} {gb : Nat} {cs : Array Value} {t' : TypeId} {zs : Array Value} (h : SW w0 w base F gw bs gb t cs gr t' zs) (hb : Below w.heap.size w w') : SW w0 w' base F gw bs gb t cs gr t' zs :=
  ⟨h.wr.below hb, h.bel.trans (hb.mono (kT h.lt.2.2.1 h.lt.2.2.2)), h.box.below hb h.box.lt, h.ans.below hb h.ans.lt, h.lt.1, h.lt.2.1, h.lt.2.2.1, kT h.lt.2.2.2 hb.size⟩
theorem x21 {k x n : Int} {v : Value} (h : Blk w g 280 #[.int .i64 k, .int .i64 x, .int .i64 n, v]) : w.cell? ⟨g, 0, none⟩ = some (.int .i64 k) /\ w.cell? ⟨g, 1, none⟩ = some (.int .i64 x) /\ w.cell? ⟨g, 2, none⟩ = some (.int .i64 n) /\ w.cell? ⟨g, 3, none⟩ = some v :=
  ⟨by rw [h.cell]; rfl, by rw [h.cell]; rfl, by rw [h.cell]; rfl, by rw [h.cell]; rfl⟩
theorem xHK (k g n : Int) (A : OA) (c : Nat) (d : LN) (B : Nat) (w : World) (hd : Bytes w B A d.length d) (hl : d.length <= 106) (h256 : ∀ b ∈ d, b < 256) (hT : Tab w) :
  Calls prog 247 #[.agg #[.int .i64 k, .int .i64 g, .int .i64 n, .slice A d.length c]] w fun e w' => e = .returned (sealSec k g n d hl h256).v /\ Below w.heap.size w w' := by
 obtain ⟨Zs, hZ, hZs⟩ : ∃ Zs : List Value, (∀ w, (zeroValue 66).run prog w = .ok (.agg Zs.toArray) w) /\ Zs = u8s (List.replicate 128 0) := ⟨Sec.zero.cs, x0P, rfl⟩
 have hwz := x8O
 obtain ⟨kb, hkb, hkb2⟩ : ∃ kb : Nat, IntKind.u8.wrap k = (kb : Int) /\ kb = (k % 256).toNat := ⟨_, by rw [IntKind.wrap_u8]; omega, rfl⟩
 have hkb3 : k % 256 = (kb : Int) := by omega
 have HZs := kH hZs
 have HKB := kH hkb2
 have HD := kH hd
 have HT := kH hT
 have hTp := hT.pos
 have K0 := ((kW w 280 #[.int .i64 k, .int .i64 g, .int .i64 n, .slice A d.length c]).alloc (.cells Zs.toArray 66)).alloc (.cells #[.slice none 0 0] 117)
 have K1 := (kW (w.alloc (.cells #[.int .i64 k, .int .i64 g, .int .i64 n, .slice A d.length c] 280)) 66 Zs.toArray).alloc (.cells #[.slice none 0 0] 117)
 have W0 := Wr.made ((w.alloc (.cells #[.int .i64 k, .int .i64 g, .int .i64 n, .slice A d.length c] 280)).alloc (.cells Zs.toArray 66))
 simp only [kJ] at K0 K1 W0
 have b0 : Below w.heap.size w (((w.alloc (.cells #[.int .i64 k, .int .i64 g, .int .i64 n, .slice A d.length c] 280)).alloc (.cells Zs.toArray 66)).alloc (.cells #[.slice none 0 0] 117)) := ((x0D w _).alloc (by simp) _).alloc (by simp; omega) _
 have hs0 : (((w.alloc (.cells #[.int .i64 k, .int .i64 g, .int .i64 n, .slice A d.length c] 280)).alloc (.cells Zs.toArray 66)).alloc (.cells #[.slice none 0 0] 117)).heap.size = w.heap.size + 1 + 1 + 1 := by simp
 have S0 : SW w (((w.alloc (.cells #[.int .i64 k, .int .i64 g, .int .i64 n, .slice A d.length c] 280)).alloc (.cells Zs.toArray 66)).alloc (.cells #[.slice none 0 0] 117)) (w.heap.size + 1 + 1) [w.heap.size + 1 + 1] (w.heap.size + 1 + 1) [] w.heap.size 280 #[.int .i64 k, .int .i64 g, .int .i64 n, .slice A d.length c] (w.heap.size + 1) 66 Zs.toArray :=
  ⟨W0, b0, K0, K1, by omega, by omega, by omega, by omega⟩
 have HS0 := kH S0
 clear hZs hkb2 hd hT K0 K1 W0 b0 S0
 have hlb : IntKind.u8.wrap (d.length : Int) = (d.length : Int) := by rw [IntKind.wrap_u8]; omega
 have hlb2 : (d.length : Int) % 256 = (d.length : Int) := by omega
 go_enter func247, ntmps247
 go_wp2_with fail
 generalize ((w.alloc (.cells #[.int .i64 k, .int .i64 g, .int .i64 n, .slice A d.length c] 280)).alloc (.cells Zs.toArray 66)).alloc (.cells #[.slice none 0 0] 117) = w3 at *
 generalize hgw : w.heap.size + 1 + 1 = gw at *
 refine (x7A w3 gw _ _ [] kb HS0.out.wr (by simp) (by omega) (by omega)).mono ?_
 rintro e w4 ⟨rfl, t4⟩
 obtain ⟨F4, S4⟩ := HS0.out.step t4
 have c4 := (x21 S4.box).2.1
 have HS4 := kH S4
 clear t4 S4 HS0 hkb hkb3
 go_wp2_with fail
 refine (x1G w4 gw _ _ _ g HS4.out.wr (by simp [plus]) HS4.out.lt.2.2.2).mono ?_
 rintro e w5 ⟨rfl, t5⟩
 obtain ⟨F5, S5⟩ := HS4.out.step t5
 have c5 := (x21 S5.box).2.2.1
 have HS5 := kH S5
 clear t5 S5 HS4 c4
 go_wp2_with fail
 refine (x1G w5 gw _ _ _ n HS5.out.wr (by simp [plus, x04]) HS5.out.lt.2.2.2).mono ?_
 rintro e w6 ⟨rfl, t6⟩
 obtain ⟨F6, S6⟩ := HS5.out.step t6
 have c6 := (x21 S6.box).2.2.2
 have HS6 := kH S6
 clear t6 S6 HS5 c5
 go_wp2_with fail
 refine (x7A w6 gw _ _ _ d.length HS6.out.wr (by simp [plus, x04]) HS6.out.lt.2.2.2 (by omega)).mono ?_
 rintro e w7 ⟨rfl, t7⟩
 obtain ⟨F7, S7⟩ := HS6.out.step t7
 have hhead : plus (some ⟨gw, 0, none⟩) (plus (some ⟨gw, 0, none⟩) (plus (some ⟨gw, 0, none⟩) (plus (some ⟨gw, 0, none⟩) [] [kb]) (numB g)) (numB n)) [d.length] = headOf k g n d.length := by
  rw [headOf, <- HKB.out]; simp [plus]
 rw [hhead] at S7
 have hs7 := S7.lt.2.2.2
 have K8 := kW w7 66 Zs.toArray
 have S8 := S7.below (x0D w7 (.cells Zs.toArray 66))
 have hs8 : (w7.alloc (.cells Zs.toArray 66)).heap.size = w7.heap.size + 1 := by simp
 have HS8 := kH (kA S8 K8)
 clear t7 S7 HS6 c6 hhead S8 K8 hlb hlb2
 go_wp2_with fail
 generalize w7.alloc (.cells Zs.toArray 66) = w8 at *
 generalize hgs : w7.heap.size = gs at *
 refine x2G (by kernel_rfl) ?_
 refine wpAny_take (i := 0) (v := .slice (some ⟨gs, 4, none⟩) 124 124) rfl (by kernel_rfl) (by kernel_rfl) (by kernel_rfl) (fun _ _ _ h => h) (Or.inl ⟨by rfl, fun w => by go_simp⟩) ?_
 simp only [nH, pu, nB, nC, nD]
 refine wpAny_take (i := 1) (v := .pointer (some ⟨gw, 0, none⟩)) rfl (by kernel_rfl) (by kernel_rfl) (by kernel_rfl) (fun _ _ _ h => h) (Or.inl ⟨by rfl, fun w => by kernel_rfl⟩) ?_
 simp only [nH, pu, nB, nC, nD]
 refine x1M (i := 2) (by kernel_rfl) rfl (by rfl) ?_
 simp only [nH, pu, nB, nC, nD]
 refine x03 (by kernel_rfl) (x58 w8.drew gw F7 _ _ (HS8.out.1.wr.of (fun _ _ => rfl)) (by rw [x24]; omega)) ?_
 rintro e w9 ⟨v, rfl, ho, b9⟩
 refine ⟨_, rfl, ?_⟩
 simp only [nH, pu, nB, nC, nD]
 have b89 : Below w8.heap.size w8 w9 := ((kB _ w8).drew).trans b9
 have S9 := HS8.out.1.below b89
 have K9 := HS8.out.2.below b89 HS8.out.2.lt
 rw [HZs.out] at K9
 obtain ⟨Ao, co, rfl, -, -, -⟩ := ho.form
 have hby := ho.bytes (xB8 k g n d.length (by omega))
 rw [x24] at hby
 rw [x24]
 refine x1M (i := 3) (by kernel_rfl) rfl (by rfl) ?_
 simp only [nH, pu, nB, nC, nD]
 refine x8Q (.tmp 28) (.tmp 30) rfl gs 4 124 124 66 (List.replicate 128 0) K9 (by rfl) Ao 18 co _ _ (by rfl) hby (by omega) (by simp) ?_
 intro w10 K10 o10
 simp only [nH, pu, nB, nC, nD]
 refine wpAny_done (by kernel_rfl) ?_ _
 refine NoPanic.normal ?_
 rw [xOA k g n d d.length rfl] at K10
 have B9 := kH S9.bel
 have T10 : Blk w10 w.heap.size 280 #[.int .i64 k, .int .i64 g, .int .i64 n, .slice A d.length c] /\ Blk w10 (w.heap.size + 1) 66 Zs.toArray /\ Below w.heap.size w w10 :=
  ⟨S9.box.of (o10.block _ S9.box.lt (by simp; omega)), S9.ans.of (o10.block _ S9.ans.lt (by simp; omega)), S9.bel.trans (o10.below (fun j hj => by simp at hj; omega) S9.bel.size)⟩
 have HT10 := kH T10
 have HK10 := kH K10
 have c10 := (x21 T10.1).2.2.2
 clear S9 K9 ho hby b9 b89 HS8 o10 K10 T10
 go_wp2_with fail
 refine x2G (by kernel_rfl) ?_
 refine wpAny_take (i := 0) (v := .slice (some ⟨gs, 22, none⟩) 106 106) rfl (by kernel_rfl) (by kernel_rfl) (by kernel_rfl) (fun _ _ _ h => h) (Or.inl ⟨by rfl, fun w => by go_simp⟩) ?_
 simp only [nH, pu, nB, nC, nD]
 refine wpAny_take (i := 1) (v := .pointer (some ⟨w.heap.size, 3, none⟩)) rfl (by kernel_rfl) (by kernel_rfl) (by kernel_rfl) (fun _ _ _ h => h) (Or.inl ⟨by rfl, fun w => by kernel_rfl⟩) ?_
 simp only [nH, pu, nB, nC, nD]
 refine x1M (i := 2) (by kernel_rfl) rfl (by rfl) ?_
 simp only [nH, pu, nB, nC, nD]
 have c10' : w10.drew.cell? ⟨w.heap.size, 3, none⟩ = some (.slice A d.length c) := c10
 refine x0A (v := .slice A d.length c) (w' := w10.drew) (by go_simp) ?_
 simp only [nH, pu, nB, nC, nD]
 refine x1M (i := 3) (by kernel_rfl) rfl (by rfl) ?_
 simp only [nH, pu, nB, nC, nD]
 have hdd : Bytes w10.drew B A d.length d := (HD.out.since HT10.out.2.2).drew
 refine x8Q (.tmp 32) (.tmp 34) rfl gs 22 106 106 66 _ HK10.out.drew (by rfl) A d.length c _ _ (by rfl) hdd hl (by simp [x24]; omega) ?_
 intro w11 K11 o11
 simp only [nH, pu, nB, nC, nD]
 refine wpAny_done (by kernel_rfl) ?_ _
 refine NoPanic.normal ?_
 rw [xPM k g n d hl] at K11
 have T11 : Blk w11 (w.heap.size + 1) 66 Zs.toArray /\ Below w.heap.size w w11 :=
  ⟨HT10.out.2.1.of (o11.block _ HT10.out.2.1.lt (by simp; omega)), HT10.out.2.2.drew.trans (o11.below (fun j hj => by simp at hj; omega) HT10.out.2.2.drew.size)⟩
 have h11 : Bytes w11 w11.heap.size (some ⟨gs, 4, none⟩) 124 (bodyOf k g n d) := by
  have := K11.bytes (off := 4) (n := 124) (by simp [x34 k g n d hl]) (fun b hb => by
   rcases mem_append.1 hb with hb | hb
   ·obtain ⟨_, rfl⟩ := mem_replicate.1 hb; omega
   ·exact x6O k g n d hl h256 b hb)
  rw [drop_left' (by simp), take_of_length_le (by rw [x34 k g n d hl]; omega)] at this
  exact this
 have P11 := kH (Parts.new1 w11 (c := 124) 35 h11 (by omega))
 have HT11 := kH (HT.out.low (T11.2.alloc T11.2.size (.cells #[.slice (some ⟨gs, 4, none⟩) 124 124] 35)) hTp)
 have HA11 := kH (kA (T11.1.alloc (.cells #[.slice (some ⟨gs, 4, none⟩) 124 124] 35)) (T11.2.alloc T11.2.size (.cells #[.slice (some ⟨gs, 4, none⟩) 124 124] 35)))
 have HK11 := kH (K11.alloc (.cells #[.slice (some ⟨gs, 4, none⟩) 124 124] 35))
 clear T11 K11 h11 o11 hdd c10 c10' HT10 HK10
 go_wp2_with fail
 generalize w11.alloc (.cells #[.slice (some ⟨gs, 4, none⟩) 124 124] 35) = w12 at *
 refine (xPC _ _ _ _ _ w12 (by omega) P11.out HT11.out).mono ?_
 rintro e w13 ⟨rfl, rfl⟩
 rw [textOf1]
 have hs13 : Crc.sum (bodyOf k g n d) < 4294967296 := Crc.go_lt _ _
 have hbl := x34 k g n d hl
 have HSL : Hid (le 4 (Crc.sum (bodyOf k g n d)) ++ List.replicate (4 - 4) 0 ++ bodyOf k g n d = sealL k g n d) := kH (by simp [sealL])
 generalize Crc.sum (bodyOf k g n d) = sm at *
 generalize bodyOf k g n d = bd at *
 clear P11 HT11 hbl
 go_wp2
 go_loopw [39] (fun i wr => ∃ j : Nat, j <= 4 /\ i = .int .i64 j /\ Blk wr gs 66 (u8s (le j sm ++ List.replicate (4 - j) 0 ++ bd)).toArray /\ Blk wr (w.heap.size + 1) 66 Zs.toArray /\ Below w.heap.size w wr) (fun i _ => 4 - (intOf i).toNat)
 case atStart => exact ⟨0, by omega, rfl, by simpa [le] using HK11.out, HA11.out.1, HA11.out.2⟩
 case round =>
  obtain ⟨j, hj, rfl, hk1, hk2, hB⟩ := hrel
  clear HK11 HA11
  by_cases hlt : j < 4
  ·have HK := kH (kA hk1 (kA hk2 hB))
   have hfz := hk1.frozen j
   have hc : wr.cell? ⟨gs, j, none⟩ = some (.int .u8 (0 : Nat)) := by rw [hk1.cell]; exact xQC (xPN sm j bd hlt)
   have hval := xLV sm j
   have HV := kH hval
   clear hk1 hk2 hB hval
   go_wp2
   go_roundw
   case rel =>
    refine ⟨j + 1, by omega, by go_num, ?_, HK.out.2.1.far (by show w.heap.size + 1 ≠ gs; omega) _, HK.out.2.2.setCell (by show w.heap.size <= gs; omega) _⟩
    have := HK.out.1.set_ j (.int .u8 ((sm / 256 ^ j % 256 : Nat) : Int))
    rw [xPD, xN5 sm j bd hlt] at this
    rw [HV.out]
    exact this
   case measure => simp [intOf]; omega
  ·obtain rfl : j = 4 := by omega
   rw [HSL.out] at hk1
   have hr : wr.rangeAt gs 0 (sealSec k g n d hl h256).cs := Blk.range (cs := (sealSec k g n d hl h256).cs) hk1
   have hu := underlying66
   have hi2 := (sealSec k g n d hl h256).info
   have hia := (sealSec k g n d hl h256).infoA
   have hzl : Zs.length = 128 := by rw [HZs.out, x0C]; simp
   have hth := hk2.there (o := 0) (n := (sealSec k g n d hl h256).cs.toArray.size) (by simp [Sec.cs_len, hzl])
   have hb3 := hk2.over (sealSec k g n d hl h256).cs (by simp [Sec.cs_len, hzl])
   have hsg := x0F (w.heap.size + 1) (sealSec k g n d hl h256).cs 0 wr
   have hone := (sealSec k g n d hl h256).one
   have HE := kH (kA hb3 (kA hsg.1 hB))
   clear hk1 hk2 hB hzl hsg hb3
   generalize hS : sealSec k g n d hl h256 = S at *
   have HS := kH hS
   clear hS
   go_wp2_with (first
    | (refine wpList_load_mid rfl 66 (.tmp 4) rfl gs 0 rfl S.cs _ hr hu rfl hi2 ?_)
    | (refine wpList_store_mid rfl 66 (.tmp 2) (.tmp 50) rfl (w.heap.size + 1) 0 S.cs.toArray rfl rfl hth hia (all_oneCell_toArray hone) ?_))
   refine bodyPost_ret (xDC rfl _ _ (w.heap.size + 1) S rfl HE.out.1) rfl ?_
   exact ⟨by rw [HS.out], HE.out.2.2.grown HE.out.2.1 HE.out.2.2.size (fun j e => by injection e with e; omega)⟩
section
theorem x23 (w : World) : (zeroValue 280).run prog w = .ok (.agg #[.int .i64 0, .int .i64 0, .int .i64 0, .slice none 0 0]) w := by kernel_rfl
theorem x0U : (prog.info? 280).map (·.size) = some 4 := by kernel_rfl
def boxCs (k g n : Int) (v : Value) : List Value := [.int .i64 k, .int .i64 g, .int .i64 n, v]
structure TW (w0 w : World) (base : Nat) (F : LN) (g : Nat) (st : RD) (gs : Nat) (s : Sec) (gb : Nat) (cs : Array Value) (gr : Nat) (zs : Array Value) : Prop where
 rd : Rd w base F (some ⟨g, 0, none⟩) st
 bel : Below w0.heap.size w0 w
 sec : Blk w gs 66 s.cs.toArray
 box : Blk w gb 280 cs
 ans : Blk w gr 280 zs
 lt : gs < base /\ gb < base /\ gr < base /\ w0.heap.size <= gb /\ base <= w.heap.size /\ w0.heap.size <= base /\ gs ≠ gb /\ gr ≠ gb
section
variable {w0 w w' : World} {base : Nat} {F : LN} {g : Nat} {st st' : RD} {gs : Nat} {s : Sec} {gb : Nat} {cs : Array Value} {gr : Nat} {zs : Array Value}
theorem TW.below (h : TW w0 w base F g st gs s gb cs gr zs) (hb : Below w.heap.size w w') : TW w0 w' base F g st gs s gb cs gr zs := by
 obtain ⟨l1, l2, l3, l4, l5, l6, l7, l8⟩ := h.lt
 exact ⟨h.rd.below hb, h.bel.trans (hb.mono (by omega)), h.sec.below hb h.sec.lt, h.box.below hb h.box.lt, h.ans.below hb h.ans.lt, l1, l2, l3, l4, kT l5 hb.size, l6, l7, l8⟩
theorem TW.step (h : TW w0 w base F g st gs s gb cs gr zs) (r : RTo w base F (some ⟨g, 0, none⟩) st' w') : ∃ F', TW w0 w' base F' g st' gs s gb cs gr zs := by
 obtain ⟨F', h1, h2, h3⟩ := r
 obtain ⟨l1, l2, l3, l4, l5, l6, l7, l8⟩ := h.lt
 have hb : Below base w w' := h2.below h.rd.over l5
 exact ⟨F', h1, h.bel.trans (hb.mono l6), h.sec.below hb l1, h.box.below hb l2, h.ans.below hb l3, l1, l2, l3, l4, kT l5 h2.size, l6, l7, l8⟩
theorem TW.put (h : TW w0 w base F g st gs s gb cs gr zs) (i : Nat) (v : Value) : TW w0 (w.setCell ⟨gb, i, none⟩ v) base F g st gs s gb (cs.setIfInBounds i v) gr zs := by
 obtain ⟨l1, l2, l3, l4, l5, l6, l7, l8⟩ := h.lt
 exact ⟨h.rd.of (by simp [World.setCell]) (fun j hj => kE _ _ _ _ (by have := h.rd.over j hj; show j ≠ gb; omega)), h.bel.setCell l4 _, h.sec.far l7 _, h.box.set_ i v, h.ans.far l8 _, l1, l2, l3, l4, by simpa [World.setCell] using l5, l6, l7, l8⟩
end
theorem x72 {gs off : Nat} {s : Sec} (h : Blk w gs 66 s.cs.toArray) (hn : off + n <= 128) : Bytes w w.heap.size (some ⟨gs, off, none⟩) n ((s.l.drop off).take n) :=
  Blk.bytes h (by rw [s.len]; exact hn) s.lt
theorem xD2 (s : Sec) (w : World) :
  Calls prog 282 #[.agg s.cs.toArray] w fun e w' => ∃ v, e = .returned (.agg (boxCs (tK s.l) (tG s.l) (tN s.l) v).toArray) /\ Own w' w.heap.size v (tD s.l).length (tD s.l) /\ Below w.heap.size w w' := by
 have hbz := x23
 have hgood : (told0 s.l).Good := ⟨fun e => (by cases e), fun b hb => s.lt b (mem_of_mem_drop hb)⟩
 have hg1 : (told1 s.l).Good := RD.take_good hgood 1
 have hg2 : (told2 s.l).Good := RD.take_good hg1 8
 have hg3 : (told3 s.l).Good := RD.take_good hg2 8
 have hb0 := RD.byte_lt hgood
 have hb3 := RD.byte_lt hg3
 have hr1 := x31 (told1 s.l)
 have hr2 := x31 (told2 s.l)
 have K0 := ((kW w 66 s.cs.toArray).alloc (.cells #[.int .i64 0, .int .i64 0, .int .i64 0, .slice none 0 0] 280)).alloc (.cells #[.int .i64 0, .int .i64 0, .int .i64 0, .slice none 0 0] 280)
 have K1 := (kW (w.alloc (.cells s.cs.toArray 66)) 280 #[.int .i64 0, .int .i64 0, .int .i64 0, .slice none 0 0]).alloc (.cells #[.int .i64 0, .int .i64 0, .int .i64 0, .slice none 0 0] 280)
 have K2 := kW ((w.alloc (.cells s.cs.toArray 66)).alloc (.cells #[.int .i64 0, .int .i64 0, .int .i64 0, .slice none 0 0] 280)) 280 #[.int .i64 0, .int .i64 0, .int .i64 0, .slice none 0 0]
 have b0 : Below w.heap.size w (((w.alloc (.cells s.cs.toArray 66)).alloc (.cells #[.int .i64 0, .int .i64 0, .int .i64 0, .slice none 0 0] 280)).alloc (.cells #[.int .i64 0, .int .i64 0, .int .i64 0, .slice none 0 0] 280)) := ((x0D w _).alloc (by simp) _).alloc (by simp; omega) _
 have hs0 : (((w.alloc (.cells s.cs.toArray 66)).alloc (.cells #[.int .i64 0, .int .i64 0, .int .i64 0, .slice none 0 0] 280)).alloc (.cells #[.int .i64 0, .int .i64 0, .int .i64 0, .slice none 0 0] 280)).heap.size = w.heap.size + 1 + 1 + 1 := by simp
 simp only [kJ] at K0 K1 K2
 have HK := kH (kA K0 (kA K1 (kA K2 b0)))
 clear K0 K1 K2 b0 hgood hg1 hg2 hg3
 go_enter func282, ntmps282
 go_wp2_with fail
 generalize ((w.alloc (.cells s.cs.toArray 66)).alloc (.cells #[.int .i64 0, .int .i64 0, .int .i64 0, .slice none 0 0] 280)).alloc (.cells #[.int .i64 0, .int .i64 0, .int .i64 0, .slice none 0 0] 280) = w3 at *
 have hby := x72 (off := 4) (n := 124) HK.out.1 (by omega)
 rw [take_of_length_le (by rw [length_drop, s.len]; omega)] at hby
 refine (x9A (some ⟨w.heap.size, 4, none⟩) 124 124 (s.l.drop 4) w3 _ (by omega) hby).mono ?_
 rintro e w4 ⟨gr, F4, rfl, R4, b4⟩
 have T4 : TW w w4 w3.heap.size F4 gr (told0 s.l) w.heap.size s (w.heap.size + 1 + 1) #[.int .i64 0, .int .i64 0, .int .i64 0, .slice none 0 0] (w.heap.size + 1) #[.int .i64 0, .int .i64 0, .int .i64 0, .slice none 0 0] :=
  ⟨R4, HK.out.2.2.2.trans (b4.mono (by omega)), HK.out.1.below b4 HK.out.1.lt, HK.out.2.2.1.below b4 HK.out.2.2.1.lt, HK.out.2.1.below b4 HK.out.2.1.lt, by omega, by omega, by omega, by omega, b4.size, by omega, by omega, by omega⟩
 have HT4 := kH T4
 clear T4 R4 b4 hby HK
 go_wp2_with fail
 refine (x77 w4 w3.heap.size F4 _ _ HT4.out.rd HT4.out.lt.2.2.2.2.1).mono ?_
 rintro e w5 ⟨rfl, r5⟩
 rw [show (told0 s.l).take 1 = told1 s.l from rfl] at r5
 obtain ⟨F5, T5⟩ := HT4.out.step r5
 have c5 : w5.cell? ⟨w.heap.size + 1 + 1, 0, none⟩ = some (.int .i64 0) := by rw [T5.box.cell]; rfl
 have f5 := T5.box.frozen 0
 have T6 := T5.put 0 (.int .i64 ((told0 s.l).byte : Nat))
 have HT6 := kH T6
 clear T5 T6 r5 HT4
 go_wp2_with fail
 generalize w5.setCell ⟨w.heap.size + 1 + 1, 0, none⟩ (.int .i64 ((told0 s.l).byte : Nat)) = w6 at *
 clear c5 f5
 refine (x25 w6 w3.heap.size F5 _ _ HT6.out.rd HT6.out.lt.2.2.2.2.1).mono ?_
 rintro e w7 ⟨rfl, r7⟩
 rw [show (told1 s.l).take 8 = told2 s.l from rfl] at r7
 obtain ⟨F7, T7⟩ := HT6.out.step r7
 have c7 : w7.cell? ⟨w.heap.size + 1 + 1, 1, none⟩ = some (.int .i64 0) := by rw [T7.box.cell]; rfl
 have f7 := T7.box.frozen 1
 have T8 := T7.put 1 (.int .i64 (told1 s.l).num)
 have HT8 := kH T8
 clear T7 T8 r7 HT6
 go_wp2_with fail
 generalize w7.setCell ⟨w.heap.size + 1 + 1, 1, none⟩ (.int .i64 (told1 s.l).num) = w8 at *
 clear c7 f7
 refine (x25 w8 w3.heap.size F7 _ _ HT8.out.rd HT8.out.lt.2.2.2.2.1).mono ?_
 rintro e w9 ⟨rfl, r9⟩
 rw [show (told2 s.l).take 8 = told3 s.l from rfl] at r9
 obtain ⟨F9, T9⟩ := HT8.out.step r9
 have c9 : w9.cell? ⟨w.heap.size + 1 + 1, 2, none⟩ = some (.int .i64 0) := by rw [T9.box.cell]; rfl
 have f9 := T9.box.frozen 2
 have T10 := T9.put 2 (.int .i64 (told2 s.l).num)
 have HT10 := kH T10
 clear T9 T10 r9 HT8
 go_wp2_with fail
 generalize w9.setCell ⟨w.heap.size + 1 + 1, 2, none⟩ (.int .i64 (told2 s.l).num) = w10 at *
 clear c9 f9
 refine (x77 w10 w3.heap.size F9 _ _ HT10.out.rd HT10.out.lt.2.2.2.2.1).mono ?_
 rintro e w11 ⟨rfl, r11⟩
 obtain ⟨F11, T11⟩ := HT10.out.step r11
 have c11 : w11.cell? ⟨w.heap.size + 1 + 1, 3, none⟩ = some (.slice none 0 0) := by rw [T11.box.cell]; rfl
 have hcnt := xPJ s.l s.len
 by_cases hc : (told3 s.l).byte <= 106
 ·have hd : ((told3 s.l).byte : Int) <= 106 := by omega
  have hq1 : (22 : Int) <= 22 + ((told3 s.l).byte : Int) := by omega
  have hq2 : 22 + ((told3 s.l).byte : Int) <= 128 := by omega
  have hcntq : (tD s.l).length = (told3 s.l).byte := by rw [hcnt]; exact Nat.min_eq_left hc
  have HL := kH hcntq
  have hby := x72 (off := 22) (n := (told3 s.l).byte) T11.sec (by omega)
  have hbe : (s.l.drop 22).take (told3 s.l).byte = tD s.l := by rw [<- hcntq, hcnt]; rfl
  rw [hbe] at hby
  have HB := kH hby
  have HT11 := kH T11
  clear T11 r11 HT10 hby hbe hcnt hcntq
  go_wp2_with fail
  refine (x0Q (some ⟨w.heap.size, 22, none⟩) (told3 s.l).byte 106 (tD s.l) w11 _ (by omega) HB.out).mono ?_
  rintro e w12 ⟨v, rfl, ho, b12⟩
  obtain ⟨Av, cv, rfl, -, -, -⟩ := ho.form
  have T12 := HT11.out.below b12
  have c12 : w12.cell? ⟨w.heap.size + 1 + 1, 3, none⟩ = some (.slice none 0 0) := by rw [T12.box.cell]; rfl
  have f12 := T12.box.frozen 3
  have T13 := T12.put 3 (.slice Av (told3 s.l).byte cv)
  have ho13 : Own (w12.setCell ⟨w.heap.size + 1 + 1, 3, none⟩ (.slice Av (told3 s.l).byte cv)) w11.heap.size (.slice Av (told3 s.l).byte cv) (told3 s.l).byte (tD s.l) := x06 ho fun j hj => kE _ _ _ _ (by have := x0G ho j hj; have := HT11.out.lt; show j ≠ w.heap.size + 1 + 1; omega)
  have hwl : w.heap.size <= w11.heap.size := HT11.out.bel.size
  have hone : ∀ u ∈ boxCs (tK s.l) (tG s.l) (tN s.l) (.slice Av (told3 s.l).byte cv), u.oneCell' = true := by
   intro u hu
   simp only [boxCs, mem_cons, not_mem_nil, or_false] at hu
   rcases hu with rfl | rfl | rfl | rfl
   ·rfl
   ·rfl
   ·rfl
   ·rfl
  have hbc : Blk (w12.setCell ⟨w.heap.size + 1 + 1, 3, none⟩ (.slice Av (told3 s.l).byte cv)) (w.heap.size + 1 + 1) 280 (boxCs (tK s.l) (tG s.l) (tN s.l) (.slice Av (told3 s.l).byte cv)).toArray := by
   have := T13.box
   simpa [boxCs, tK, tG, tN] using this
  have hrg : World.rangeAt (w12.setCell ⟨w.heap.size + 1 + 1, 3, none⟩ (.slice Av (told3 s.l).byte cv)) (w.heap.size + 1 + 1) 0 (boxCs (tK s.l) (tG s.l) (tN s.l) (.slice Av (told3 s.l).byte cv)) := hbc.range
  have hu := underlying280
  have hib : (prog.info? 280).map (·.size) = some (boxCs (tK s.l) (tG s.l) (tN s.l) (.slice Av (told3 s.l).byte cv)).length := x0U
  have hia : (prog.info? 280).map (·.size) = some (boxCs (tK s.l) (tG s.l) (tN s.l) (.slice Av (told3 s.l).byte cv)).toArray.size := x0U
  have hth := T13.ans.there (o := 0) (n := (boxCs (tK s.l) (tG s.l) (tN s.l) (.slice Av (told3 s.l).byte cv)).toArray.size) (by simp [boxCs])
  have hb3' := T13.ans.over (boxCs (tK s.l) (tG s.l) (tN s.l) (.slice Av (told3 s.l).byte cv)) (by simp [boxCs])
  have hsg := x0F (w.heap.size + 1) (boxCs (tK s.l) (tG s.l) (tN s.l) (.slice Av (told3 s.l).byte cv)) 0 (w12.setCell ⟨w.heap.size + 1 + 1, 3, none⟩ (.slice Av (told3 s.l).byte cv))
  have hgrl : w.heap.size + 1 < w11.heap.size := by have := HT11.out.lt; omega
  have ho14 : Own ((w12.setCell ⟨w.heap.size + 1 + 1, 3, none⟩ (.slice Av (told3 s.l).byte cv)).setCells (w.heap.size + 1) 0 (boxCs (tK s.l) (tG s.l) (tN s.l) (.slice Av (told3 s.l).byte cv))) w.heap.size (.slice Av (told3 s.l).byte cv) (told3 s.l).byte (tD s.l) :=
   (Own.grown ho13 hsg.1 (.inr (fun e => by have := (kD ho13 _ e).1; omega))).weaken hwl
  have hB14 : Below w.heap.size w ((w12.setCell ⟨w.heap.size + 1 + 1, 3, none⟩ (.slice Av (told3 s.l).byte cv)).setCells (w.heap.size + 1) 0 (boxCs (tK s.l) (tG s.l) (tN s.l) (.slice Av (told3 s.l).byte cv))) :=
   T13.bel.grown hsg.1 T13.bel.size (fun j e => by injection e with e; omega)
  have HE := kH (kA hb3' (kA ho14 hB14))
  clear ho T12 T13 ho13 hbc hsg hb3' ho14 hB14 HT11 HB b12
  generalize hbq : boxCs (tK s.l) (tG s.l) (tN s.l) (.slice Av (told3 s.l).byte cv) = bc at *
  have HBQ := kH hbq
  clear hbq
  go_wp2_with (first
   | (refine wpList_load_mid rfl 280 (.tmp 3) rfl (w.heap.size + 1 + 1) 0 rfl bc _ hrg hu rfl hib ?_)
   | (refine wpList_store_mid rfl 280 (.tmp 2) (.tmp 27) rfl (w.heap.size + 1) 0 bc.toArray rfl rfl hth hia (all_oneCell_toArray hone) ?_))
  refine bodyPost_ret (results_cell_row rfl _ _ (w.heap.size + 1) 280 bc.toArray (0, 0) _ rfl HE.out.1 underlying280 rfl hia) rfl ?_
  exact ⟨_, by rw [HBQ.out], by rw [HL.out]; exact HE.out.2.1, HE.out.2.2⟩
 ·have hd : ¬ ((told3 s.l).byte : Int) <= 106 := by omega
  have hcntq : (tD s.l).length = 106 := by rw [hcnt]; exact Nat.min_eq_right (by show 106 <= (told3 s.l).byte; omega)
  have HL := kH hcntq
  have hby := x72 (off := 22) (n := 106) T11.sec (by omega)
  have hbe : (s.l.drop 22).take 106 = tD s.l := by rw [<- hcntq, hcnt]; rfl
  rw [hbe] at hby
  have HB := kH hby
  have HT11 := kH T11
  clear T11 r11 HT10 hby hbe hcnt hcntq
  go_wp2_with fail
  refine (x0Q (some ⟨w.heap.size, 22, none⟩) 106 106 (tD s.l) w11 _ (by omega) HB.out).mono ?_
  rintro e w12 ⟨v, rfl, ho, b12⟩
  obtain ⟨Av, cv, rfl, -, -, -⟩ := ho.form
  have T12 := HT11.out.below b12
  have c12 : w12.cell? ⟨w.heap.size + 1 + 1, 3, none⟩ = some (.slice none 0 0) := by rw [T12.box.cell]; rfl
  have f12 := T12.box.frozen 3
  have T13 := T12.put 3 (.slice Av 106 cv)
  have ho13 : Own (w12.setCell ⟨w.heap.size + 1 + 1, 3, none⟩ (.slice Av 106 cv)) w11.heap.size (.slice Av 106 cv) 106 (tD s.l) := x06 ho fun j hj => kE _ _ _ _ (by have := x0G ho j hj; have := HT11.out.lt; show j ≠ w.heap.size + 1 + 1; omega)
  have hwl : w.heap.size <= w11.heap.size := HT11.out.bel.size
  have hone : ∀ u ∈ boxCs (tK s.l) (tG s.l) (tN s.l) (.slice Av 106 cv), u.oneCell' = true := by
   intro u hu
   simp only [boxCs, mem_cons, not_mem_nil, or_false] at hu
   rcases hu with rfl | rfl | rfl | rfl
   ·rfl
   ·rfl
   ·rfl
   ·rfl
  have hbc : Blk (w12.setCell ⟨w.heap.size + 1 + 1, 3, none⟩ (.slice Av 106 cv)) (w.heap.size + 1 + 1) 280 (boxCs (tK s.l) (tG s.l) (tN s.l) (.slice Av 106 cv)).toArray := by
   have := T13.box
   simpa [boxCs, tK, tG, tN] using this
  have hrg : World.rangeAt (w12.setCell ⟨w.heap.size + 1 + 1, 3, none⟩ (.slice Av 106 cv)) (w.heap.size + 1 + 1) 0 (boxCs (tK s.l) (tG s.l) (tN s.l) (.slice Av 106 cv)) := hbc.range
  have hu := underlying280
  have hib : (prog.info? 280).map (·.size) = some (boxCs (tK s.l) (tG s.l) (tN s.l) (.slice Av 106 cv)).length := x0U
  have hia : (prog.info? 280).map (·.size) = some (boxCs (tK s.l) (tG s.l) (tN s.l) (.slice Av 106 cv)).toArray.size := x0U
  have hth := T13.ans.there (o := 0) (n := (boxCs (tK s.l) (tG s.l) (tN s.l) (.slice Av 106 cv)).toArray.size) (by simp [boxCs])
  have hb3' := T13.ans.over (boxCs (tK s.l) (tG s.l) (tN s.l) (.slice Av 106 cv)) (by simp [boxCs])
  have hsg := x0F (w.heap.size + 1) (boxCs (tK s.l) (tG s.l) (tN s.l) (.slice Av 106 cv)) 0 (w12.setCell ⟨w.heap.size + 1 + 1, 3, none⟩ (.slice Av 106 cv))
  have hgrl : w.heap.size + 1 < w11.heap.size := by have := HT11.out.lt; omega
  have ho14 : Own ((w12.setCell ⟨w.heap.size + 1 + 1, 3, none⟩ (.slice Av 106 cv)).setCells (w.heap.size + 1) 0 (boxCs (tK s.l) (tG s.l) (tN s.l) (.slice Av 106 cv))) w.heap.size (.slice Av 106 cv) 106 (tD s.l) :=
   (Own.grown ho13 hsg.1 (.inr (fun e => by have := (kD ho13 _ e).1; omega))).weaken hwl
  have hB14 : Below w.heap.size w ((w12.setCell ⟨w.heap.size + 1 + 1, 3, none⟩ (.slice Av 106 cv)).setCells (w.heap.size + 1) 0 (boxCs (tK s.l) (tG s.l) (tN s.l) (.slice Av 106 cv))) :=
   T13.bel.grown hsg.1 T13.bel.size (fun j e => by injection e with e; omega)
  have HE := kH (kA hb3' (kA ho14 hB14))
  clear ho T12 T13 ho13 hbc hsg hb3' ho14 hB14 HT11 HB b12
  generalize hbq : boxCs (tK s.l) (tG s.l) (tN s.l) (.slice Av 106 cv) = bc at *
  have HBQ := kH hbq
  clear hbq
  go_wp2_with (first
   | (refine wpList_load_mid rfl 280 (.tmp 3) rfl (w.heap.size + 1 + 1) 0 rfl bc _ hrg hu rfl hib ?_)
   | (refine wpList_store_mid rfl 280 (.tmp 2) (.tmp 27) rfl (w.heap.size + 1) 0 bc.toArray rfl rfl hth hia (all_oneCell_toArray hone) ?_))
  refine bodyPost_ret (results_cell_row rfl _ _ (w.heap.size + 1) 280 bc.toArray (0, 0) _ rfl HE.out.1 underlying280 rfl hia) rfl ?_
  exact ⟨_, by rw [HBQ.out], by rw [HL.out]; exact HE.out.2.1, HE.out.2.2⟩
end
theorem x62 (w : World) (k g n : Int) (A : OA) (m c : Nat) (Zs : List Value) (hz : Zs.length = 128) :
  Blk ((w.alloc (.cells #[.int .i64 k, .int .i64 g, .int .i64 n, .slice A m c] 280)).alloc (.cells Zs.toArray 66)) w.heap.size 280 (boxCs k g n (.slice A m c)).toArray ∧
  Blk ((w.alloc (.cells #[.int .i64 k, .int .i64 g, .int .i64 n, .slice A m c] 280)).alloc (.cells Zs.toArray 66)) (w.heap.size + 1) 66 Zs.toArray ∧
  Below w.heap.size w ((w.alloc (.cells #[.int .i64 k, .int .i64 g, .int .i64 n, .slice A m c] 280)).alloc (.cells Zs.toArray 66)) := by
 have K1 := kW (w.alloc (.cells #[.int .i64 k, .int .i64 g, .int .i64 n, .slice A m c] 280)) 66 Zs.toArray
 rw [kJ] at K1
 exact ⟨(kW w _ _).alloc _, K1, (x0D w _).alloc (by simp) _⟩
theorem x5P {Zs : List Value} (S : Sec) (h : Blk w' gr 66 Zs.toArray) (hz : Zs.length = 128) (hb : Below w.heap.size w w') (hg : w.heap.size <= gr) :
  w'.there gr 0 S.cs.toArray.size /\ Blk (w'.setCells gr 0 S.cs) gr 66 S.cs.toArray /\ Below w.heap.size w (w'.setCells gr 0 S.cs) :=
 ⟨h.there (by simp [Sec.cs_len, hz]), h.over S.cs (by simp [Sec.cs_len, hz]), hb.grown (x0F gr S.cs 0 w').1 hb.size (fun j e => by injection e with e; omega)⟩
theorem xA2 (k g n : Int) (A : OA) (m c : Nat) (w : World) (hb : isBoxB k g n = false) :
  Calls prog 206 #[.agg (boxCs k g n (.slice A m c)).toArray] w fun e w' => e = .returned (.tuple #[Sec.zero.v, errV 1]) /\ Below w.heap.size w w' := by
 obtain ⟨Zs, hZ, hZs⟩ : ∃ Zs : List Value, (∀ w, (zeroValue 66).run prog w = .ok (.agg Zs.toArray) w) /\ Zs = Sec.zero.cs := ⟨Sec.zero.cs, x0P, rfl⟩
 have hbd : ∀ w, (Instr.build 66 #[]).run prog w = .ok (.agg Zs.toArray) w := fun w => by rw [xBP w, <- hZ w]; exact (x0P w).symm
 have hzl : Zs.length = 128 := by rw [hZs, Sec.cs_len]
 obtain ⟨K0, K1, b0⟩ := x62 w k g n A m c Zs hzl
 obtain ⟨hth, ha, hB⟩ := x5P Sec.zero K1 hzl b0 (by omega)
 have hone := Sec.zero.one
 have hia := Sec.zero.infoA
 rw [<- hZs] at hth ha hB hone hia
 have HA := kH (kA ha hB)
 have HZs := kH hZs
 have HB := kH hb
 clear hZs hzl K0 K1 b0 ha hB hb
 simp only [boxCs]
 go_enter func206, ntmps206
 go_wp2_with fail
 refine (x6T k g n _).mono ?_
 rintro e w' ⟨rfl, rfl⟩
 rw [HB.out]
 go_wp2_with (refine wpList_store_mid rfl 66 (.tmp 2) (.tmp 12) rfl (w.heap.size + 1) 0 Zs.toArray rfl rfl hth hia (all_oneCell_toArray hone) ?_)
 refine bodyPost_ret (x4E rfl _ _ (w.heap.size + 1) Sec.zero (errV 1) rfl rfl (by rw [<- HZs.out]; exact HA.out.1)) rfl ?_
 exact ⟨rfl, HA.out.2⟩
theorem xJF (k g n : Int) (A : OA) (m c : Nat) (w : World) (hb : isBoxB k g n = true) (hm : 106 < m) :
  Calls prog 206 #[.agg (boxCs k g n (.slice A m c)).toArray] w fun e w' => e = .returned (.tuple #[Sec.zero.v, errV 2]) /\ Below w.heap.size w w' := by
 obtain ⟨Zs, hZ, hZs⟩ : ∃ Zs : List Value, (∀ w, (zeroValue 66).run prog w = .ok (.agg Zs.toArray) w) /\ Zs = Sec.zero.cs := ⟨Sec.zero.cs, x0P, rfl⟩
 have hbd : ∀ w, (Instr.build 66 #[]).run prog w = .ok (.agg Zs.toArray) w := fun w => by rw [xBP w, <- hZ w]; exact (x0P w).symm
 have hzl : Zs.length = 128 := by rw [hZs, Sec.cs_len]
 obtain ⟨K0, K1, b0⟩ := x62 w k g n A m c Zs hzl
 obtain ⟨hth, ha, hB⟩ := x5P Sec.zero K1 hzl b0 (by omega)
 have hone := Sec.zero.one
 have hia := Sec.zero.infoA
 rw [<- hZs] at hth ha hB hone hia
 have HA := kH (kA ha hB)
 have HZs := kH hZs
 have HB := kH hb
 have hd : decide (106 < (m : Int)) = true := decide_eq_true (by omega)
 clear hZs hzl K0 K1 b0 ha hB hb
 simp only [boxCs]
 go_enter func206, ntmps206
 go_wp2_with fail
 refine (x6T k g n _).mono ?_
 rintro e w' ⟨rfl, rfl⟩
 rw [HB.out]
 go_wp2_with (refine wpList_store_mid rfl 66 (.tmp 2) (.tmp 18) rfl (w.heap.size + 1) 0 Zs.toArray rfl rfl hth hia (all_oneCell_toArray hone) ?_)
 refine bodyPost_ret (x4E rfl _ _ (w.heap.size + 1) Sec.zero (errV 2) rfl rfl (by rw [<- HZs.out]; exact HA.out.1)) rfl ?_
 exact ⟨rfl, HA.out.2⟩
theorem x7O (k g n : Int) (A : OA) (c : Nat) (d : LN) (B : Nat) (w : World) (hb : isBoxB k g n = true) (hd : Bytes w B A d.length d) (hl : d.length <= 106) (h256 : ∀ b ∈ d, b < 256) (hT : Tab w) :
  Calls prog 206 #[.agg (boxCs k g n (.slice A d.length c)).toArray] w fun e w' => e = .returned (.tuple #[(sealSec k g n d hl h256).v, .nilIface]) /\ Below w.heap.size w w' := by
 obtain ⟨Zs, hZ, hZs⟩ : ∃ Zs : List Value, (∀ w, (zeroValue 66).run prog w = .ok (.agg Zs.toArray) w) /\ Zs = Sec.zero.cs := ⟨Sec.zero.cs, x0P, rfl⟩
 have hzl : Zs.length = 128 := by rw [hZs, Sec.cs_len]
 obtain ⟨K0, K1, b0⟩ := x62 w k g n A d.length c Zs hzl
 have hdc : decide (106 < (d.length : Int)) = false := decide_eq_false (by omega)
 have hrg : World.rangeAt _ w.heap.size 0 (boxCs k g n (.slice A d.length c)) := K0.range
 have hu := underlying280
 have hib : (prog.info? 280).map (·.size) = some (boxCs k g n (.slice A d.length c)).length := x0U
 have HK := kH (kA K0 (kA K1 b0))
 have HB := kH hb
 have HD := kH hd
 have HT := kH (hT.below b0)
 have HZL := kH hzl
 clear hZs hzl K0 K1 b0 hb hd hT
 simp only [boxCs] at hrg hib ⊢
 go_enter func206, ntmps206
 go_wp2_with fail
 refine (x6T k g n _).mono ?_
 rintro e w' ⟨rfl, rfl⟩
 rw [HB.out]
 go_wp2_with (refine wpList_load_mid rfl 280 (.tmp 1) rfl w.heap.size 0 rfl _ _ hrg hu rfl hib ?_)
 generalize (w.alloc (.cells #[.int .i64 k, .int .i64 g, .int .i64 n, .slice A d.length c] 280)).alloc (.cells Zs.toArray 66) = w2 at *
 refine (xHK k g n A c d B w2 (HD.out.since HK.out.2.2) hl h256 HT.out).mono ?_
 rintro e w3 ⟨rfl, b3⟩
 simp only [Sec.v]
 have K3 := HK.out.2.1.below b3 HK.out.2.1.lt
 have B3 : Below w.heap.size w w3 := HK.out.2.2.trans (b3.mono HK.out.2.2.size)
 obtain ⟨hth, ha, hB⟩ := x5P (sealSec k g n d hl h256) K3 HZL.out B3 (by omega)
 have hone := (sealSec k g n d hl h256).one
 have hia := (sealSec k g n d hl h256).infoA
 have HA := kH (kA ha hB)
 clear ha hB K3 B3 b3 hrg
 generalize hS : sealSec k g n d hl h256 = S at *
 have HS := kH hS
 clear hS
 go_wp2_with (refine wpList_store_mid rfl 66 (.tmp 2) (.tmp 21) rfl (w.heap.size + 1) 0 S.cs.toArray rfl rfl hth hia (all_oneCell_toArray hone) ?_)
 refine bodyPost_ret (x4E rfl _ _ (w.heap.size + 1) S .nilIface rfl rfl HA.out.1) rfl ?_
 exact ⟨by simp only [Sec.v, HS.out], HA.out.2⟩
theorem x6M {rest : List Oper} {o : Oper} (hw : Region.wanted o (yielded ops a.tmps) = true)
 (h : ∀ K : Act -> World -> Prop, (∀ a w, wpList P ops Q rest a w -> K a w) -> o.wp P a w K Q) : wpList P ops Q (o :: rest) a w :=
 wpList_step fun K hK => by rw [if_pos hw]; exact h K hK
theorem x1N {rest : List Oper} (hw : Region.wanted op (yielded ops a.tmps) = true) (ty : TypeId) (x : Operand) (ho : op.op = .load ty x)
 (b o : Nat) (hx : a.eval x = .pointer (some ⟨b, o, none⟩)) (cs : List Value) (d : TypeDesc) (hc : w.rangeAt b o cs) (hu : P.underlying ty = some d) (hd : d.isRow = true) (hi : (P.info? ty).map (·.size) = some cs.length)
 (h : wpList P ops Q rest (a.put op.dst (.agg cs.toArray)) w) : wpList P ops Q (op :: rest) a w :=
 x6M hw fun _ hK => wp_load_mid ty x ho b o hx cs d hc hu hd hi (hK _ _ h)
theorem x4V {rest : List Oper} (hw : Region.wanted op (yielded ops a.tmps) = true) (x y : Operand) (ho : op.op = .binOp .neq 66 x y 66)
 (s t : Sec) (hx : a.eval x = .agg s.cs.toArray) (hy : a.eval y = .agg t.cs.toArray) (r : Bool) (hr : secEq s t = !r)
 (h : wpList prog ops Q rest (a.put op.dst (.bool r)) w) : wpList prog ops Q (op :: rest) a w :=
 x6M hw fun _ hK => by
  refine x0A (v := .bool r) (w' := w) ?_ (hK _ _ h)
  have := x8N s t w
  rw [hr, Bool.not_not] at this
  simp [execOp, ho, hx, hy, this, x6K, Result.andThen]
theorem xBH (w : World) : (Instr.build 280 #[]).run prog w = .ok (.agg #[.int .i64 0, .int .i64 0, .int .i64 0, .slice none 0 0]) w := by kernel_rfl
theorem x1E (k g n : Int) (A : OA) (m c : Nat) : ∀ u ∈ boxCs k g n (.slice A m c), u.oneCell' = true := by
 intro u hu
 simp only [boxCs, mem_cons, not_mem_nil, or_false] at hu
 rcases hu with rfl | rfl | rfl | rfl <;> rfl
theorem x47 {fn : Func} {p u : Tmp} (h : fn.results = #[.cell p 280, .tmp u]) (tmps : Array Value) (w : World) (g : Nat) (cs : List Value) (v : Value) (hl : cs.length = 4) (hp : tmps.getD p undef = .pointer (some ⟨g, 0, none⟩)) (hv : tmps.getD u undef = v) (hg : Blk w g 280 cs.toArray) :
  (results fn tmps).run prog w = .ok (.tuple #[.agg cs.toArray, v]) w := by
 rw [results_cell_tmp h, hp, hv]
 have := run_loadVar_row (P := prog) w g 280 280 cs.toArray (0, 0) _ hg underlying280 rfl (by rw [size_toArray, hl]; exact x0U)
 simp [asAddr, this, Result.andThen]
theorem xAA (s : Sec) (w w3 : World) (v : Value) (b3 : Below (((w.alloc (.cells s.cs.toArray 66)).alloc (.cells #[.int .i64 0, .int .i64 0, .int .i64 0, .slice none 0 0] 280))).heap.size ((w.alloc (.cells s.cs.toArray 66)).alloc (.cells #[.int .i64 0, .int .i64 0, .int .i64 0, .slice none 0 0] 280)) w3) (bc : List Value) :
  Blk (w3.alloc (.cells bc.toArray 280)) w.heap.size 66 s.cs.toArray /\ Blk (w3.alloc (.cells bc.toArray 280)) (w.heap.size + 1) 280 #[.int .i64 0, .int .i64 0, .int .i64 0, .slice none 0 0] ∧
  Blk (w3.alloc (.cells bc.toArray 280)) w3.heap.size 280 bc.toArray /\ Below w.heap.size w (w3.alloc (.cells bc.toArray 280)) /\ w.heap.size + 1 < w3.heap.size := by
 have K0 := (kW w 66 s.cs.toArray).alloc (.cells #[.int .i64 0, .int .i64 0, .int .i64 0, .slice none 0 0] 280)
 have K1 := kW (w.alloc (.cells s.cs.toArray 66)) 280 #[.int .i64 0, .int .i64 0, .int .i64 0, .slice none 0 0]
 rw [kJ] at K1
 have hs := b3.size
 have hb : Below w.heap.size w w3 := ((x0D w (.cells s.cs.toArray 66)).alloc (by simp) (.cells #[.int .i64 0, .int .i64 0, .int .i64 0, .slice none 0 0] 280)).trans (b3.mono (by simp; omega))
 simp at hs
 exact ⟨(K0.below b3 K0.lt).alloc _, (K1.below b3 K1.lt).alloc _, kW _ _ _, hb.alloc hb.size _, by omega⟩
theorem xCW (s : Sec) (w : World) (hT : Tab w) (hs : isSealed s.l = false) :
  Calls prog 257 #[.agg s.cs.toArray] w fun e w' => e = .returned (.tuple #[.agg (boxCs 0 0 0 (.slice none 0 0)).toArray, errV 11]) /\ Below w.heap.size w w' := by
 obtain ⟨Zs, hZ, hZs⟩ : ∃ Zs : List Value, (∀ w, (zeroValue 66).run prog w = .ok (.agg Zs.toArray) w) /\ Zs = Sec.zero.cs := ⟨Sec.zero.cs, x0P, rfl⟩
 have hzl : Zs.length = 128 := by rw [hZs, Sec.cs_len]
 have hbz := x23
 have hbb := xBH
 have HT := kH hT
 have HSL := kH hs
 have HZL := kH hzl
 have hrs : World.rangeAt ((w.alloc (.cells s.cs.toArray 66)).alloc (.cells #[.int .i64 0, .int .i64 0, .int .i64 0, .slice none 0 0] 280)) w.heap.size 0 s.cs := ((kW w 66 s.cs.toArray).alloc (.cells #[.int .i64 0, .int .i64 0, .int .i64 0, .slice none 0 0] 280)).range
 have husec := underlying66
 have hubox := underlying280
 have hisec := s.info
 clear hT hs hzl hZs
 go_enter func257, ntmps257
 go_wp2_with (refine wpList_load_mid rfl 66 (.tmp 1) rfl w.heap.size 0 rfl s.cs _ hrs husec rfl hisec ?_)
 refine (xD2 s _).mono ?_
 rintro e w3 ⟨v, rfl, ho, b3⟩
 obtain ⟨Av, cv, rfl, -, -, -⟩ := ho.form
 obtain ⟨k0, k1, k2, kb, kl⟩ := xAA s w w3 (.slice Av (tD s.l).length cv) b3 (boxCs (tK s.l) (tG s.l) (tN s.l) (.slice Av (tD s.l).length cv))
 have hd4 := (ho.bytes (x2Q s.l s.lt)).since (x0D w3 (.cells (boxCs (tK s.l) (tG s.l) (tN s.l) (.slice Av (tD s.l).length cv)).toArray 280))
 have hT4 := HT.out.below kb
 have HK := kH (kA k0 (kA k1 (kA k2 (kA kb (kA hd4 hT4)))))
 have hib : (prog.info? 280).map (·.size) = some (boxCs (tK s.l) (tG s.l) (tN s.l) (.slice Av (tD s.l).length cv)).length := x0U
 have hone := x1E (tK s.l) (tG s.l) (tN s.l) Av (tD s.l).length cv
 have hrb : World.rangeAt (w3.alloc (.cells (boxCs (tK s.l) (tG s.l) (tN s.l) (.slice Av (tD s.l).length cv)).toArray 280)) w3.heap.size 0 (boxCs (tK s.l) (tG s.l) (tN s.l) (.slice Av (tD s.l).length cv)) := k2.range
 clear k0 k1 k2 kb hd4 hT4 ho b3 hrs
 have hDl := x5C s.l
 go_wp2_with (first
  | (refine x07 rfl 280 (.tmp 4) (.tmp 8) rfl w3.heap.size rfl (boxCs (tK s.l) (tG s.l) (tN s.l) (.slice Av (tD s.l).length cv)) _ rfl rfl hib rfl hone ?_)
  | (refine wpList_load_mid rfl 280 (.tmp 4) rfl w3.heap.size 0 rfl (boxCs (tK s.l) (tG s.l) (tN s.l) (.slice Av (tD s.l).length cv)) _ hrb hubox rfl hib ?_))
 cases hbx : isBoxB (tK s.l) (tG s.l) (tN s.l) with
 | false =>
  refine (xA2 _ _ _ Av _ cv _ hbx).mono ?_
  rintro e w5 ⟨rfl, b5⟩
  have k0 := HK.out.1.below b5 HK.out.1.lt
  have k1 := HK.out.2.1.below b5 HK.out.2.1.lt
  have kb5 := HK.out.2.2.2.1.trans (b5.mono HK.out.2.2.2.1.size)
  have KA := kH (kA (k0.alloc (.cells (Sec.zero).cs.toArray 66)) (kA (k1.alloc (.cells (Sec.zero).cs.toArray 66)) (kb5.alloc kb5.size (.cells (Sec.zero).cs.toArray 66))))
  have KS := kW w5 66 (Sec.zero).cs.toArray
  have hth := KA.out.2.1.there (o := 0) (n := (boxCs 0 0 0 (.slice none 0 0)).toArray.size) (by simp [boxCs])
  have ha := KA.out.2.1.over (boxCs 0 0 0 (.slice none 0 0)) (by simp [boxCs])
  have hB := KA.out.2.2.grown (x0F (w.heap.size + 1) (boxCs 0 0 0 (.slice none 0 0)) 0 _).1 KA.out.2.2.size (fun j e => by injection e with e; omega)
  have HA := kH (kA ha hB)
  have hone0 := x1E 0 0 0 none 0 0
  have hia0 : (prog.info? 280).map (·.size) = some (boxCs 0 0 0 (.slice none 0 0)).toArray.size := x0U
  clear ha hB
  have hlz : Zs.toArray.size = Sec.zero.cs.length := by rw [size_toArray, HZL.out, Sec.cs_len]
  have HLZ := kH hlz
  have hisz := Sec.zero.info
  have honez := Sec.zero.one
  simp only [errV, Sec.v]
  clear hlz k0 k1 kb5 b5 hbx KS hrb
  generalize Sec.zero = S0 at *
  go_wp2_with (first
   | (refine x07 rfl 66 (.tmp 5) (.tmp 12) rfl w5.heap.size rfl S0.cs _ rfl rfl hisz HLZ.out honez ?_)
   | (refine wpList_store_mid rfl 280 (.tmp 2) (.tmp 21) rfl (w.heap.size + 1) 0 (boxCs 0 0 0 (.slice none 0 0)).toArray rfl rfl hth hia0 (all_oneCell_toArray hone0) ?_))
  refine bodyPost_ret (x47 rfl _ _ (w.heap.size + 1) (boxCs 0 0 0 (.slice none 0 0)) (errV 11) rfl rfl rfl HA.out.1) rfl ?_
  exact ⟨rfl, HA.out.2⟩
 | true =>
  have hEq : secEq (sealSec (tK s.l) (tG s.l) (tN s.l) (tD s.l) hDl (x2Q s.l s.lt)) s = false := by
   have := HSL.out
   unfold isSealed at this
   rw [hbx, Bool.true_and] at this
   exact this
  refine (x7O _ _ _ Av cv (tD s.l) _ _ hbx HK.out.2.2.2.2.1 hDl (x2Q s.l s.lt) HK.out.2.2.2.2.2).mono ?_
  rintro e w5 ⟨rfl, b5⟩
  generalize sealSec (tK s.l) (tG s.l) (tN s.l) (tD s.l) hDl (x2Q s.l s.lt) = S1 at *
  have k0 := HK.out.1.below b5 HK.out.1.lt
  have k1 := HK.out.2.1.below b5 HK.out.2.1.lt
  have kb5 := HK.out.2.2.2.1.trans (b5.mono HK.out.2.2.2.1.size)
  have KA := kH (kA (k0.alloc (.cells (S1).cs.toArray 66)) (kA (k1.alloc (.cells (S1).cs.toArray 66)) (kb5.alloc kb5.size (.cells (S1).cs.toArray 66))))
  have KS := kW w5 66 (S1).cs.toArray
  have hth := KA.out.2.1.there (o := 0) (n := (boxCs 0 0 0 (.slice none 0 0)).toArray.size) (by simp [boxCs])
  have ha := KA.out.2.1.over (boxCs 0 0 0 (.slice none 0 0)) (by simp [boxCs])
  have hB := KA.out.2.2.grown (x0F (w.heap.size + 1) (boxCs 0 0 0 (.slice none 0 0)) 0 _).1 KA.out.2.2.size (fun j e => by injection e with e; omega)
  have HA := kH (kA ha hB)
  have hone0 := x1E 0 0 0 none 0 0
  have hia0 : (prog.info? 280).map (·.size) = some (boxCs 0 0 0 (.slice none 0 0)).toArray.size := x0U
  clear ha hB
  have hlz : Zs.toArray.size = S1.cs.length := by rw [size_toArray, HZL.out, Sec.cs_len]
  have HLZ := kH hlz
  have hisz := S1.info
  have honez := S1.one
  have hr5 : World.rangeAt (w5.alloc (.cells S1.cs.toArray 66)) w5.heap.size 0 S1.cs := KS.range
  have hr0 : World.rangeAt (w5.alloc (.cells S1.cs.toArray 66)) w.heap.size 0 s.cs := KA.out.1.range
  have HEQ := kH hEq
  simp only [Sec.v]
  clear hlz k0 k1 kb5 b5 hbx KS hrb hEq
  go_wp2_with (first
   | (refine x07 rfl 66 (.tmp 5) (.tmp 12) rfl w5.heap.size rfl S1.cs _ rfl rfl hisz HLZ.out honez ?_)
   | (refine x1N (by kernel_rfl) 66 (.tmp 5) rfl w5.heap.size 0 rfl S1.cs _ hr5 husec rfl hisz ?_)
   | (refine x1N (by kernel_rfl) 66 (.tmp 1) rfl w.heap.size 0 rfl s.cs _ hr0 husec rfl hisec ?_)
   | (refine x4V (by kernel_rfl) (.tmp 17) (.tmp 18) rfl S1 s rfl rfl true HEQ.out ?_)
   | (refine wpList_store_mid rfl 280 (.tmp 2) (.tmp 21) rfl (w.heap.size + 1) 0 (boxCs 0 0 0 (.slice none 0 0)).toArray rfl rfl hth hia0 (all_oneCell_toArray hone0) ?_))
  refine bodyPost_ret (x47 rfl _ _ (w.heap.size + 1) (boxCs 0 0 0 (.slice none 0 0)) (errV 11) rfl rfl rfl HA.out.1) rfl ?_
  exact ⟨rfl, HA.out.2⟩
theorem x3K (s : Sec) (w : World) (hT : Tab w) (hs : isSealed s.l = true) :
  Calls prog 257 #[.agg s.cs.toArray] w fun e w' => ∃ A c, e = .returned (.tuple #[.agg (boxCs (tK s.l) (tG s.l) (tN s.l) (.slice A (tD s.l).length c)).toArray, .nilIface]) /\ Own w' w.heap.size (.slice A (tD s.l).length c) (tD s.l).length (tD s.l) /\ Below w.heap.size w w' := by
 obtain ⟨Zs, hZ, hZs⟩ : ∃ Zs : List Value, (∀ w, (zeroValue 66).run prog w = .ok (.agg Zs.toArray) w) /\ Zs = Sec.zero.cs := ⟨Sec.zero.cs, x0P, rfl⟩
 have hzl : Zs.length = 128 := by rw [hZs, Sec.cs_len]
 have hbz := x23
 have hbb := xBH
 have HT := kH hT
 have HSL := kH hs
 have HZL := kH hzl
 have hrs : World.rangeAt ((w.alloc (.cells s.cs.toArray 66)).alloc (.cells #[.int .i64 0, .int .i64 0, .int .i64 0, .slice none 0 0] 280)) w.heap.size 0 s.cs := ((kW w 66 s.cs.toArray).alloc (.cells #[.int .i64 0, .int .i64 0, .int .i64 0, .slice none 0 0] 280)).range
 have husec := underlying66
 have hubox := underlying280
 have hisec := s.info
 clear hT hs hzl hZs
 go_enter func257, ntmps257
 go_wp2_with (refine wpList_load_mid rfl 66 (.tmp 1) rfl w.heap.size 0 rfl s.cs _ hrs husec rfl hisec ?_)
 refine (xD2 s _).mono ?_
 rintro e w3 ⟨v, rfl, ho, b3⟩
 obtain ⟨Av, cv, rfl, -, -, -⟩ := ho.form
 obtain ⟨k0, k1, k2, kb, kl⟩ := xAA s w w3 (.slice Av (tD s.l).length cv) b3 (boxCs (tK s.l) (tG s.l) (tN s.l) (.slice Av (tD s.l).length cv))
 have hd4 := (ho.bytes (x2Q s.l s.lt)).since (x0D w3 (.cells (boxCs (tK s.l) (tG s.l) (tN s.l) (.slice Av (tD s.l).length cv)).toArray 280))
 have hT4 := HT.out.below kb
 have ho4 := ho.alloc (.cells (boxCs (tK s.l) (tG s.l) (tN s.l) (.slice Av (tD s.l).length cv)).toArray 280)
 have HO := kH ho4
 have hsz2 : ((w.alloc (.cells s.cs.toArray 66)).alloc (.cells #[.int .i64 0, .int .i64 0, .int .i64 0, .slice none 0 0] 280)).heap.size = w.heap.size + 1 + 1 := by simp
 have HK := kH (kA k0 (kA k1 (kA k2 (kA kb (kA hd4 hT4)))))
 have hib : (prog.info? 280).map (·.size) = some (boxCs (tK s.l) (tG s.l) (tN s.l) (.slice Av (tD s.l).length cv)).length := x0U
 have hone := x1E (tK s.l) (tG s.l) (tN s.l) Av (tD s.l).length cv
 have hrb : World.rangeAt (w3.alloc (.cells (boxCs (tK s.l) (tG s.l) (tN s.l) (.slice Av (tD s.l).length cv)).toArray 280)) w3.heap.size 0 (boxCs (tK s.l) (tG s.l) (tN s.l) (.slice Av (tD s.l).length cv)) := k2.range
 clear k0 k1 k2 kb hd4 hT4 ho ho4 b3 hrs
 have hDl := x5C s.l
 go_wp2_with (first
  | (refine x07 rfl 280 (.tmp 4) (.tmp 8) rfl w3.heap.size rfl (boxCs (tK s.l) (tG s.l) (tN s.l) (.slice Av (tD s.l).length cv)) _ rfl rfl hib rfl hone ?_)
  | (refine wpList_load_mid rfl 280 (.tmp 4) rfl w3.heap.size 0 rfl (boxCs (tK s.l) (tG s.l) (tN s.l) (.slice Av (tD s.l).length cv)) _ hrb hubox rfl hib ?_))
 have hEq : secEq (sealSec (tK s.l) (tG s.l) (tN s.l) (tD s.l) hDl (x2Q s.l s.lt)) s = true := by
  have := (x78 s.l HSL.out).1
  unfold secEq
  rw [beq_iff_eq]
  exact this
 have hbx := (x78 s.l HSL.out).2
 refine (x7O _ _ _ Av cv (tD s.l) _ _ hbx HK.out.2.2.2.2.1 hDl (x2Q s.l s.lt) HK.out.2.2.2.2.2).mono ?_
 rintro e w5 ⟨rfl, b5⟩
 generalize sealSec (tK s.l) (tG s.l) (tN s.l) (tD s.l) hDl (x2Q s.l s.lt) = S1 at *
 have k0 := HK.out.1.below b5 HK.out.1.lt
 have k1 := HK.out.2.1.below b5 HK.out.2.1.lt
 have kb5 := HK.out.2.2.2.1.trans (b5.mono HK.out.2.2.2.1.size)
 have KA := kH (kA (k0.alloc (.cells (S1).cs.toArray 66)) (kA (k1.alloc (.cells (S1).cs.toArray 66)) (kb5.alloc kb5.size (.cells (S1).cs.toArray 66))))
 have KS := kW w5 66 (S1).cs.toArray
 have hth := KA.out.2.1.there (o := 0) (n := (boxCs (tK s.l) (tG s.l) (tN s.l) (.slice Av (tD s.l).length cv)).toArray.size) (by simp [boxCs])
 have ha := KA.out.2.1.over (boxCs (tK s.l) (tG s.l) (tN s.l) (.slice Av (tD s.l).length cv)) (by simp [boxCs])
 have hB := KA.out.2.2.grown (x0F (w.heap.size + 1) (boxCs (tK s.l) (tG s.l) (tN s.l) (.slice Av (tD s.l).length cv)) 0 _).1 KA.out.2.2.size (fun j e => by injection e with e; omega)
 have ho6 := (HO.out.below b5).alloc (.cells (S1).cs.toArray 66)
 have ho7 := (Own.grown ho6 (x0F (w.heap.size + 1) (boxCs (tK s.l) (tG s.l) (tN s.l) (.slice Av (tD s.l).length cv)) 0 _).1 (.inr (fun e => by have := (kD ho6 _ e).1; omega))).weaken (base' := w.heap.size) (by omega)
 have k2 := HK.out.2.2.1.below b5 HK.out.2.2.1.lt
 have hr3 : World.rangeAt (w5.alloc (.cells S1.cs.toArray 66)) w3.heap.size 0 (boxCs (tK s.l) (tG s.l) (tN s.l) (.slice Av (tD s.l).length cv)) := (k2.alloc (.cells (S1).cs.toArray 66)).range
 have HA := kH (kA ha (kA hB ho7))
 have hone0 := hone
 have hia0 : (prog.info? 280).map (·.size) = some (boxCs (tK s.l) (tG s.l) (tN s.l) (.slice Av (tD s.l).length cv)).toArray.size := x0U
 clear ha hB ho6 ho7 k2
 have hlz : Zs.toArray.size = S1.cs.length := by rw [size_toArray, HZL.out, Sec.cs_len]
 have HLZ := kH hlz
 have hisz := S1.info
 have honez := S1.one
 have hr5 : World.rangeAt (w5.alloc (.cells S1.cs.toArray 66)) w5.heap.size 0 S1.cs := KS.range
 have hr0 : World.rangeAt (w5.alloc (.cells S1.cs.toArray 66)) w.heap.size 0 s.cs := KA.out.1.range
 have HEQ := kH hEq
 simp only [Sec.v]
 clear hlz k0 k1 kb5 b5 hbx KS hrb hEq
 go_wp2_with (first
  | (refine x07 rfl 66 (.tmp 5) (.tmp 12) rfl w5.heap.size rfl S1.cs _ rfl rfl hisz HLZ.out honez ?_)
  | (refine x1N (by kernel_rfl) 66 (.tmp 5) rfl w5.heap.size 0 rfl S1.cs _ hr5 husec rfl hisz ?_)
  | (refine x1N (by kernel_rfl) 66 (.tmp 1) rfl w.heap.size 0 rfl s.cs _ hr0 husec rfl hisec ?_)
  | (refine x4V (by kernel_rfl) (.tmp 17) (.tmp 18) rfl S1 s rfl rfl false HEQ.out ?_)
  | (refine wpList_load_mid rfl 280 (.tmp 4) rfl w3.heap.size 0 rfl (boxCs (tK s.l) (tG s.l) (tN s.l) (.slice Av (tD s.l).length cv)) _ hr3 hubox rfl hib ?_)
  | (refine wpList_store_mid rfl 280 (.tmp 2) (.tmp 23) rfl (w.heap.size + 1) 0 (boxCs (tK s.l) (tG s.l) (tN s.l) (.slice Av (tD s.l).length cv)).toArray rfl rfl hth hia0 (all_oneCell_toArray hone0) ?_))
 refine bodyPost_ret (x47 rfl _ _ (w.heap.size + 1) (boxCs (tK s.l) (tG s.l) (tN s.l) (.slice Av (tD s.l).length cv)) .nilIface rfl rfl rfl HA.out.1) rfl ?_
 exact ⟨Av, cv, rfl, HA.out.2.2, HA.out.2.1⟩
def isOf (l : LN) (k g n : Int) : Bool := isSealed l && decide (tK l = k /\ tG l = g /\ tN l = n)
theorem xCX (s : Sec) (k g n : Int) (w : World) (hT : Tab w) (h : isOf s.l k g n = true) :
  Calls prog 218 #[.agg s.cs.toArray, .int .i64 k, .int .i64 g, .int .i64 n] w fun e w' => ∃ A c, e = .returned (.tuple #[.slice A (tD s.l).length c, .bool true]) /\ Own w' w.heap.size (.slice A (tD s.l).length c) (tD s.l).length (tD s.l) /\ Below w.heap.size w w' := by
 simp only [isOf, Bool.and_eq_true, decide_eq_true_eq] at h
 obtain ⟨hs, rfl, rfl, rfl⟩ := h
 have HT := kH hT
 have hrs : World.rangeAt (w.alloc (.cells s.cs.toArray 66)) w.heap.size 0 s.cs := (kW w 66 s.cs.toArray).range
 have husec := underlying66
 have hubox := underlying280
 have hisec := s.info
 have hbz := x23
 have b1 := x0D w (.cells s.cs.toArray 66)
 have hT1 := kH (hT.below b1)
 have B1 := kH b1
 have HS := kH hs
 clear hT hs b1
 go_enter func218, ntmps218
 go_wp2_with (refine wpList_load_mid rfl 66 (.tmp 4) rfl w.heap.size 0 rfl s.cs _ hrs husec rfl hisec ?_)
 refine (x3K s _ hT1.out HS.out).mono ?_
 rintro e w2 ⟨A, c, rfl, ho, b2⟩
 have hK2 := kW w2 280 (boxCs (tK s.l) (tG s.l) (tN s.l) (.slice A (tD s.l).length c)).toArray
 have cc := x21 hK2
 have c0 := cc.1
 have c1 := cc.2.1
 have c2 := cc.2.2.1
 have c3 := cc.2.2.2
 have hib : (prog.info? 280).map (·.size) = some (boxCs (tK s.l) (tG s.l) (tN s.l) (.slice A (tD s.l).length c)).length := x0U
 have hone := x1E (tK s.l) (tG s.l) (tN s.l) A (tD s.l).length c
 have bb := B1.out.trans (b2.mono (by simp))
 have HO := kH (kA ((ho.alloc (.cells (boxCs (tK s.l) (tG s.l) (tN s.l) (.slice A (tD s.l).length c)).toArray 280)).weaken (base' := w.heap.size) (by simp)) (bb.alloc bb.size (.cells (boxCs (tK s.l) (tG s.l) (tN s.l) (.slice A (tD s.l).length c)).toArray 280)))
 clear ho b2 cc bb hK2 hrs
 simp only [boxCs] at c0 c1 c2 c3 hib hone ⊢
 go_wp2_with (refine x07 rfl 280 (.tmp 10) (.tmp 15) rfl w2.heap.size rfl _ _ rfl rfl hib rfl hone ?_)
 go_ret2
 exact ⟨A, c, rfl, HO.out⟩
theorem xHV (s : Sec) (k g n : Int) (w : World) (hT : Tab w) (hs : isSealed s.l = false) :
  Calls prog 218 #[.agg s.cs.toArray, .int .i64 k, .int .i64 g, .int .i64 n] w fun e w' => e = .returned (.tuple #[.slice none 0 0, .bool false]) /\ Below w.heap.size w w' := by
 have HT := kH hT
 have hrs : World.rangeAt (w.alloc (.cells s.cs.toArray 66)) w.heap.size 0 s.cs := (kW w 66 s.cs.toArray).range
 have husec := underlying66
 have hubox := underlying280
 have hisec := s.info
 have hbz := x23
 have b1 := x0D w (.cells s.cs.toArray 66)
 have hT1 := kH (hT.below b1)
 have B1 := kH b1
 have HS := kH hs
 clear hT hs b1
 go_enter func218, ntmps218
 go_wp2_with (refine wpList_load_mid rfl 66 (.tmp 4) rfl w.heap.size 0 rfl s.cs _ hrs husec rfl hisec ?_)
 refine (xCW s _ hT1.out HS.out).mono ?_
 rintro e w2 ⟨rfl, b2⟩
 have bb := B1.out.trans (b2.mono (by simp))
 have HB := kH (bb.alloc bb.size (.cells (boxCs 0 0 0 (.slice none 0 0)).toArray 280))
 have hib : (prog.info? 280).map (·.size) = some (boxCs 0 0 0 (.slice none 0 0)).length := x0U
 have hone := x1E 0 0 0 none 0 0
 clear b2 bb hrs
 simp only [boxCs, errV] at hib hone ⊢
 go_wp2_with (refine x07 rfl 280 (.tmp 10) (.tmp 15) rfl w2.heap.size rfl _ _ rfl rfl hib rfl hone ?_)
 go_ret2
 exact ⟨rfl, HB.out⟩
theorem xOZ (s : Sec) (k g n : Int) (w : World) (hT : Tab w) (hs : isSealed s.l = true) (hk : tK s.l ≠ k) :
  Calls prog 218 #[.agg s.cs.toArray, .int .i64 k, .int .i64 g, .int .i64 n] w fun e w' => e = .returned (.tuple #[.slice none 0 0, .bool false]) /\ Below w.heap.size w w' := by
 have HT := kH hT
 have hrs : World.rangeAt (w.alloc (.cells s.cs.toArray 66)) w.heap.size 0 s.cs := (kW w 66 s.cs.toArray).range
 have husec := underlying66
 have hubox := underlying280
 have hisec := s.info
 have hbz := x23
 have b1 := x0D w (.cells s.cs.toArray 66)
 have hT1 := kH (hT.below b1)
 have B1 := kH b1
 have HS := kH hs
 have hd1 : (tK s.l != k) = true := by simpa using hk
 clear hT hs b1 hk
 go_enter func218, ntmps218
 go_wp2_with (refine wpList_load_mid rfl 66 (.tmp 4) rfl w.heap.size 0 rfl s.cs _ hrs husec rfl hisec ?_)
 refine (x3K s _ hT1.out HS.out).mono ?_
 rintro e w2 ⟨A, c, rfl, ho, b2⟩
 have hK2 := kW w2 280 (boxCs (tK s.l) (tG s.l) (tN s.l) (.slice A (tD s.l).length c)).toArray
 have cc := x21 hK2
 have c0 := cc.1
 have c1 := cc.2.1
 have c2 := cc.2.2.1
 have c3 := cc.2.2.2
 have hib : (prog.info? 280).map (·.size) = some (boxCs (tK s.l) (tG s.l) (tN s.l) (.slice A (tD s.l).length c)).length := x0U
 have hone := x1E (tK s.l) (tG s.l) (tN s.l) A (tD s.l).length c
 have bb := B1.out.trans (b2.mono (by simp))
 have HO := kH (kA ((ho.alloc (.cells (boxCs (tK s.l) (tG s.l) (tN s.l) (.slice A (tD s.l).length c)).toArray 280)).weaken (base' := w.heap.size) (by simp)) (bb.alloc bb.size (.cells (boxCs (tK s.l) (tG s.l) (tN s.l) (.slice A (tD s.l).length c)).toArray 280)))
 clear ho b2 cc bb hK2 hrs
 simp only [boxCs] at c0 c1 c2 c3 hib hone ⊢
 go_wp2_with (refine x07 rfl 280 (.tmp 10) (.tmp 15) rfl w2.heap.size rfl _ _ rfl rfl hib rfl hone ?_)
 go_ret2
 exact ⟨rfl, HO.out.2⟩
theorem xO9 (s : Sec) (k g n : Int) (w : World) (hT : Tab w) (hs : isSealed s.l = true) (hk : tK s.l = k) (hg : tG s.l ≠ g) :
  Calls prog 218 #[.agg s.cs.toArray, .int .i64 k, .int .i64 g, .int .i64 n] w fun e w' => e = .returned (.tuple #[.slice none 0 0, .bool false]) /\ Below w.heap.size w w' := by
 subst hk
 have HT := kH hT
 have hrs : World.rangeAt (w.alloc (.cells s.cs.toArray 66)) w.heap.size 0 s.cs := (kW w 66 s.cs.toArray).range
 have husec := underlying66
 have hubox := underlying280
 have hisec := s.info
 have hbz := x23
 have b1 := x0D w (.cells s.cs.toArray 66)
 have hT1 := kH (hT.below b1)
 have B1 := kH b1
 have HS := kH hs
 have hd2 : (tG s.l != g) = true := by simpa using hg
 clear hT hs b1 hg
 go_enter func218, ntmps218
 go_wp2_with (refine wpList_load_mid rfl 66 (.tmp 4) rfl w.heap.size 0 rfl s.cs _ hrs husec rfl hisec ?_)
 refine (x3K s _ hT1.out HS.out).mono ?_
 rintro e w2 ⟨A, c, rfl, ho, b2⟩
 have hK2 := kW w2 280 (boxCs (tK s.l) (tG s.l) (tN s.l) (.slice A (tD s.l).length c)).toArray
 have cc := x21 hK2
 have c0 := cc.1
 have c1 := cc.2.1
 have c2 := cc.2.2.1
 have c3 := cc.2.2.2
 have hib : (prog.info? 280).map (·.size) = some (boxCs (tK s.l) (tG s.l) (tN s.l) (.slice A (tD s.l).length c)).length := x0U
 have hone := x1E (tK s.l) (tG s.l) (tN s.l) A (tD s.l).length c
 have bb := B1.out.trans (b2.mono (by simp))
 have HO := kH (kA ((ho.alloc (.cells (boxCs (tK s.l) (tG s.l) (tN s.l) (.slice A (tD s.l).length c)).toArray 280)).weaken (base' := w.heap.size) (by simp)) (bb.alloc bb.size (.cells (boxCs (tK s.l) (tG s.l) (tN s.l) (.slice A (tD s.l).length c)).toArray 280)))
 clear ho b2 cc bb hK2 hrs
 simp only [boxCs] at c0 c1 c2 c3 hib hone ⊢
 go_wp2_with (refine x07 rfl 280 (.tmp 10) (.tmp 15) rfl w2.heap.size rfl _ _ rfl rfl hib rfl hone ?_)
 go_ret2
 exact ⟨rfl, HO.out.2⟩
theorem xPT (s : Sec) (k g n : Int) (w : World) (hT : Tab w) (hs : isSealed s.l = true) (hk : tK s.l = k) (hg : tG s.l = g) (hn : tN s.l ≠ n) :
  Calls prog 218 #[.agg s.cs.toArray, .int .i64 k, .int .i64 g, .int .i64 n] w fun e w' => e = .returned (.tuple #[.slice none 0 0, .bool false]) /\ Below w.heap.size w w' := by
 subst hk hg
 have HT := kH hT
 have hrs : World.rangeAt (w.alloc (.cells s.cs.toArray 66)) w.heap.size 0 s.cs := (kW w 66 s.cs.toArray).range
 have husec := underlying66
 have hubox := underlying280
 have hisec := s.info
 have hbz := x23
 have b1 := x0D w (.cells s.cs.toArray 66)
 have hT1 := kH (hT.below b1)
 have B1 := kH b1
 have HS := kH hs
 have hd3 : (tN s.l != n) = true := by simpa using hn
 clear hT hs b1 hn
 go_enter func218, ntmps218
 go_wp2_with (refine wpList_load_mid rfl 66 (.tmp 4) rfl w.heap.size 0 rfl s.cs _ hrs husec rfl hisec ?_)
 refine (x3K s _ hT1.out HS.out).mono ?_
 rintro e w2 ⟨A, c, rfl, ho, b2⟩
 have hK2 := kW w2 280 (boxCs (tK s.l) (tG s.l) (tN s.l) (.slice A (tD s.l).length c)).toArray
 have cc := x21 hK2
 have c0 := cc.1
 have c1 := cc.2.1
 have c2 := cc.2.2.1
 have c3 := cc.2.2.2
 have hib : (prog.info? 280).map (·.size) = some (boxCs (tK s.l) (tG s.l) (tN s.l) (.slice A (tD s.l).length c)).length := x0U
 have hone := x1E (tK s.l) (tG s.l) (tN s.l) A (tD s.l).length c
 have bb := B1.out.trans (b2.mono (by simp))
 have HO := kH (kA ((ho.alloc (.cells (boxCs (tK s.l) (tG s.l) (tN s.l) (.slice A (tD s.l).length c)).toArray 280)).weaken (base' := w.heap.size) (by simp)) (bb.alloc bb.size (.cells (boxCs (tK s.l) (tG s.l) (tN s.l) (.slice A (tD s.l).length c)).toArray 280)))
 clear ho b2 cc bb hK2 hrs
 simp only [boxCs] at c0 c1 c2 c3 hib hone ⊢
 go_wp2_with (refine x07 rfl 280 (.tmp 10) (.tmp 15) rfl w2.heap.size rfl _ _ rfl rfl hib rfl hone ?_)
 go_ret2
 exact ⟨rfl, HO.out.2⟩
theorem xO6 (s : Sec) (k g n : Int) (w : World) (hT : Tab w) (h : isOf s.l k g n = false) :
  Calls prog 218 #[.agg s.cs.toArray, .int .i64 k, .int .i64 g, .int .i64 n] w fun e w' => e = .returned (.tuple #[.slice none 0 0, .bool false]) /\ Below w.heap.size w w' := by
 cases hs : isSealed s.l with
 | false => exact xHV s k g n w hT hs
 | true =>
  by_cases hk : tK s.l = k
  ·by_cases hg : tG s.l = g
   ·by_cases hn : tN s.l = n
    ·simp [isOf, hs, hk, hg, hn] at h
    ·exact xPT s k g n w hT hs hk hg hn
   ·exact xO9 s k g n w hT hs hk hg
  ·exact xOZ s k g n w hT hs hk
def hi : LN := [104, 105]
def sealErr (k g n : Int) (m : Nat) : Nat := if isBoxB k g n then (if m <= 106 then 0 else 2) else 1
open Classical in
noncomputable def sealRes (k g n : Int) (d : LN) : Sec := if h : d.length <= 106 /\ (∀ b ∈ d, b < 256) /\ isBoxB k g n = true then sealSec k g n d h.1 h.2.1 else Sec.zero
theorem x7C {k g n : Int} {d : LN} (hb : isBoxB k g n = true) (hl : d.length <= 106) (h : ∀ b ∈ d, b < 256) : sealRes k g n d = sealSec k g n d hl h := by
 unfold sealRes
 rw [dif_pos ⟨hl, h, hb⟩]
theorem x6Z {k g n : Int} {d : LN} (hb : isBoxB k g n = true) (hl : d.length <= 106) (h : ∀ b ∈ d, b < 256) : (sealRes k g n d).l = sealL k g n d := by
  rw [x7C hb hl h]; rfl
theorem x8J {k g n : Int} {d : LN} (h : sealErr k g n d.length ≠ 0) : sealRes k g n d = Sec.zero := by
 unfold sealRes
 rw [dif_neg]
 rintro ⟨h1, h2, h3⟩
 exact h (by unfold sealErr; rw [if_pos h3, if_pos h1])
theorem xLH (k g n : Int) (A : OA) (c : Nat) (d : LN) (B : Nat) (w : World) (hd : Bytes w B A d.length d) (hT : Tab w) :
  Calls prog 206 #[.agg (boxCs k g n (.slice A d.length c)).toArray] w fun e w' => e = .returned (.tuple #[(sealRes k g n d).v, errV (sealErr k g n d.length)]) /\ Below w.heap.size w w' := by
 cases hb : isBoxB k g n with
 | false =>
  have e : sealErr k g n d.length = 1 := by unfold sealErr; rw [hb]; rfl
  rw [e, x8J (by rw [e]; omega)]
  exact xA2 k g n A d.length c w hb
 | true =>
  by_cases hl : d.length <= 106
  ·have e : sealErr k g n d.length = 0 := by unfold sealErr; rw [hb, if_pos rfl, if_pos hl]
   rw [e, x7C hb hl hd.2]
   exact x7O k g n A c d B w hb hd hl hd.2 hT
  ·have e : sealErr k g n d.length = 2 := by unfold sealErr; rw [hb, if_pos rfl, if_neg hl]
   rw [e, x8J (by rw [e]; omega)]
   exact xJF k g n A d.length c w hb (by omega)
theorem x8V (n : Int) (w : World) : Calls prog 147 #[.int .i64 n] w fun e w' => ∃ A c, e = .returned (.slice A 8 c) /\ Own w' w.heap.size (.slice A 8 c) 8 (numB n) /\ Below w.heap.size w w' := by
 have hz := x8O
 have B0 := kW w 117 #[.slice none 0 0]
 have hw : Wr (w.alloc (.cells #[.slice none 0 0] 117)) w.heap.size [w.heap.size] (some ⟨w.heap.size, 0, none⟩) [] :=
  .inr ⟨w.heap.size, rfl, .slice none 0 0, by simp [rowOf, Value.ownBlock], B0, World.ownsRow_nil _ _ _ _, kR _, by simp⟩
 have HW := kH hw
 clear hw B0
 go_enter func147, ntmps147
 go_wp2_with fail
 refine (x1G _ _ _ _ _ n HW.out (by simp) (by simp)).mono ?_
 rintro e w1 ⟨rfl, F, h1, ho, hf⟩
 have e : plus (some ⟨w.heap.size, 0, none⟩) [] (numB n) = numB n := by simp [plus]
 rw [e] at h1
 have H1 := kH h1
 have hb1 : Below w.heap.size w w1 := by
  have h0 : Below w.heap.size w (w.alloc (.cells #[.slice none 0 0] 117)) := (kB _ _).alloc (kR _) _
  exact h0.trans (ho.below (fun k hk => by simp at hk; omega) h0.size)
 have HB := kH hb1
 clear h1 ho hf hb1
 go_wp2_with fail
 refine (x58 _ _ _ _ _ H1.out (by rw [x04]; omega)).mono ?_
 rintro e w2 ⟨v, rfl, hown, hb⟩
 have hl := x04 n
 rw [hl] at hown
 obtain ⟨A, cap, rfl, -, -, -⟩ := hown.form
 go_wp2
 go_ret
 exact ⟨_, _, rfl, x0B hown HB.out.size, HB.out.trans (hb.mono HB.out.size)⟩
end Go.Proofs.YtpogpajjemaagaaGreatDoor
