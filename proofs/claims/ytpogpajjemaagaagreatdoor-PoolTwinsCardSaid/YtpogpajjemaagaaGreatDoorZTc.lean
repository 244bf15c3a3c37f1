/- Texts of the walk, joined. -/
import Derived.Test.YtpogpajjemaagaaGreatDoorZTb
import Derived.ArgAppend
import Derived.Laws.AppendOwn
import Derived.Sort.QuietIn
import Derived.RangeFuncBox
namespace Go.Proofs.YtpogpajjemaagaaGreatDoor
set_option linter.unusedSimpArgs false
set_option linter.unusedVariables false
set_option maxRecDepth 100000
open Go.Proofs.Tryz
set_option maxHeartbeats 16000000
open Go.RowKit Go.BigFrame
open List (append_toArray cons_append drop_eq_getElem_cons drop_length drop_of_length_le ext_getElem? flatMap_cons length_cons length_drop length_nil length_pos_iff length_range length_singleton length_take map_append map_congr_left map_drop mem_append mem_append_right mem_cons mem_of_getElem? mem_of_mem_drop mem_of_mem_take mem_range mem_singleton nil_append not_mem_nil push_toArray range_succ replicate_succ size_toArray take_of_length_le take_take toList_toArray)
variable {P : Program} {W w w' w0 : World} {B Bn Bs base c g gen gj m n used : Nat} {e : TypeId} {xs : List Value} {A : OA} {a : Act} {d : DM} {X : LN} {o : Oper} {Q : Exit -> Act -> World -> Prop} {vs vt : Value}
theorem results_cell_tmp {fn : Func} {p q : Tmp} {ty : TypeId} (h : fn.results = #[.cell p ty, .tmp q]) (tmps : Array Value) (w : World) (g : Nat) (t : TypeId) (cs : Array Value) (fr : Nat × Nat) (d : TypeDesc) (v : Value)
 (hp : tmps.getD p undef = .pointer (some ⟨g, 0, none⟩)) (hq : tmps.getD q undef = v) (hg : w.heap[g]? = some (.cells cs t fr))
 (hu : P.underlying ty = some d) (hd : (match d with | .struct _ | .array _ _ => true | _ => false) = true) (hi : (P.info? ty).map (·.size) = some cs.size) :
  (results fn tmps).run P w = .ok (.tuple #[.agg cs, v]) w := by
 have hp' : tmps[p]?.getD undef = .pointer (some ⟨g, 0, none⟩) := by simpa using hp
 have hq' : tmps[q]?.getD undef = v := by simpa using hq
 simp [results, h, hp', hq', asAddr, run_loadVar_row w g t ty cs fr d hg hu hd hi]
theorem xKV (w : World) (o o' : Obj) : Below w.heap.size w ((w.alloc o).alloc o') := ((kB _ _).alloc (kR _) _).alloc (by simp) _
theorem xGH : Sec.zero.cs = List.replicate 128 (.int .u8 0) := by simp [Sec.zero, Sec.cs, u8s, u8]
theorem xA9 : ∀ n, (List.replicate n Sec.zero).flatMap Sec.cs = List.replicate (n * 128) (Value.int .u8 0)
 | 0 => by simp
 | n + 1 => by rw [replicate_succ, flatMap_cons, xA9 n, xGH, List.replicate_append_replicate]; congr 1; omega
theorem x60 (n : Nat) : madeCells Sec.zero.v.cells (n * 128) = ((List.replicate n Sec.zero).flatMap Sec.cs).toArray := by
 rw [xA9]
 have e : Sec.zero.v.cells = (List.replicate 128 (Value.int .u8 0)).toArray := by rw [<- xGH]; rfl
 rw [e]
 exact xJK 128 _ _ (by omega)
theorem x9D (f : Nat -> Sec) (n : Nat) : sixCells f n = ((List.range n).map f).flatMap Sec.cs := by
 unfold sixCells
 rw [List.flatMap_map]
theorem xNV {α : Type} (l : List α) (o N : Nat) (s : List α) (h : o + s.length <= N) (hN : N <= l.length) : (l.take o ++ s ++ l.drop (o + s.length)).take N = (l.take N).take o ++ s ++ (l.take N).drop (o + s.length) := by
 have hl : (l.take o ++ s).length = o + s.length := by simp; omega
 rw [take_take, Nat.min_eq_left (by omega), List.drop_take, List.take_append, take_of_length_le (l := l.take o ++ s) (by omega), hl]
theorem xGC {f : Nat -> Sec} (s : Sec) {i : Nat} (h : w.ownsRow base e 128 (.slice (some ⟨g, 0, none⟩) n c) n (sixCells f n)) (hi : i < n) :
  (w.setCells g (i * 128) s.cs).ownsRow base e 128 (.slice (some ⟨g, 0, none⟩) n c) n (sixCells (fun j => if j = i then s else f j) n) := by
 rcases h.2 with ⟨hv, _⟩ | ⟨g', cap, cur, hv, hbg, hg, hnc, hm, hs, ht⟩
 ·cases hv
 ·injection hv with h1 h2 h3
  injection h1 with h1
  injection h1 with h1 _ _
  subst h1 h3
  have hB : Blk w g e cur.toList.toArray := by unfold Blk; rw [hg]
  have hsz : n * 128 <= c * 128 := Nat.mul_le_mul_right _ hnc
  have hin : i * 128 + 128 <= n * 128 := by have := Nat.mul_le_mul_right 128 hi; rw [Nat.succ_mul] at this; omega
  have hcl : cur.toList.length = c * 128 := by simpa using hs
  have hset := x6V s.cs (i * 128) hB (by rw [Sec.cs_len, hcl]; omega)
  refine ⟨x1Z _ _, .inr ⟨g, c, _, rfl, hbg, hset, hnc, hm, ?_, ?_⟩⟩
  ·simp [Sec.cs_len, hs]; omega
  ·rw [<- xPA f s n i hi, <- ht]
   exact xNV _ _ _ _ (by rw [Sec.cs_len]; exact hin) (by rw [hcl]; exact hsz)
theorem xC6 (h : w.ownsRow base e 128 (.slice (some ⟨g, 0, none⟩) n c) n xs) {i : Nat} (hi : i < n) : w.there g (i * 128) 128 := by
 rcases h.2 with ⟨hv, _⟩ | ⟨g', cap, cur, hv, hbg, hg, hnc, hm, hs, ht⟩
 ·cases hv
 ·injection hv with h1 h2 h3
  injection h1 with h1
  injection h1 with h1 _ _
  subst h1 h3
  have hsz : n * 128 <= c * 128 := Nat.mul_le_mul_right _ hnc
  have hin : i * 128 + 128 <= n * 128 := by have := Nat.mul_le_mul_right 128 hi; rw [Nat.succ_mul] at this; omega
  exact Blk.there (t := e) (cs := cur) hg (by omega)
def RowsB (w : World) (B : Nat) (A : OA) (m : Nat) (rs : Nat -> Value) (ds : Nat -> LN) : Prop :=
  Reads w B 1 A m ((List.range m).map rs) /\ ∀ i, i < m -> ∃ a c, rs i = .slice a (ds i).length c /\ Bytes w B a (ds i).length (ds i)
theorem RowsB.at_ {rs : Nat -> Value} {ds : Nat -> LN} (h : RowsB w B A m rs ds) {k : Nat} (hk : k < m) : ∃ ad a c, A = some ad /\ w.cell? (ad.add k) = some (.slice a (ds k).length c) /\ Bytes w B a (ds k).length (ds k) := by
 obtain ⟨ad, u, e, _, hx, hc⟩ := h.1.at_ hk
 obtain ⟨a, c, h1, h2⟩ := h.2 k hk
 have : u = rs k := by simpa [hk] using hx.symm
 exact ⟨ad, a, c, e, by rw [hc, this, h1], h2⟩
theorem RowsB.below {rs : Nat -> Value} {ds : Nat -> LN} (h : RowsB w B A m rs ds) (hb : Below B w w') : RowsB w' B A m rs ds :=
  ⟨h.1.below hb, fun i hi => by obtain ⟨a, c, h1, h2⟩ := h.2 i hi; exact ⟨a, c, h1, h2.below hb⟩⟩
noncomputable def sealRow (k g first : Int) (ds : Nat -> LN) (j i : Nat) : Sec := if i < j then sealRes k g (first + i) (ds i) else Sec.zero
theorem xEY (k g first : Int) (ds : Nat -> LN) (j : Nat) : (fun i => if i = j then sealRes k g (first + j) (ds j) else sealRow k g first ds j i) = sealRow k g first ds (j + 1) := by
 funext i
 unfold sealRow
 by_cases h : i = j
 ·subst h; simp
 ·rw [if_neg h]
  by_cases h2 : i < j
  ·rw [if_pos h2, if_pos (by omega)]
  ·rw [if_neg h2, if_neg (by omega)]
theorem x3H (k g : Int) (first : Nat) (A : OA) (m c : Nat) (rs : Nat -> Value) (ds : Nat -> LN) (w : World) (hm : m <= 4096) (hf : first <= 1000000) (hR : RowsB w w.heap.size A m rs ds) (hT : Tab w) (hpos : 0 < w.heap.size)
 (hgood : ∀ i : Nat, i < m -> sealErr k g ((first : Int) + i) (ds i).length = 0) :
  Calls prog 145 #[.int .i64 k, .int .i64 g, .int .i64 first, .slice A m c] w fun e w' => ∃ v, e = .returned (.tuple #[v, .nilIface]) /\ w'.ownsRow w.heap.size 66 128 v m (sixCells (sealRow k g first ds m) m) /\ Below w.heap.size w w' := by
 obtain ⟨i0, hi0, hz0, hz1, hz2⟩ := info_parts x8X
 have hmk : ∀ w, (Instr.makeSlice 179 (.int .i64 m) (.int .i64 m)).run prog w = .ok (.slice (some ⟨w.heap.size, 0, none⟩) m m) (w.alloc (.cells ((List.replicate m Sec.zero).flatMap Sec.cs).toArray 66)) := by
  intro w
  have := run_make (P := prog) w 179 66 i0 Sec.zero.v underlying179 hi0 hz0 .i64 .i64 m m (by omega) (by omega) (by rw [hz2]; omega) (by omega)
  rw [hz1] at this
  simp only [kP] at this
  rw [x60] at this
  exact this
 have e0 : (List.replicate m Sec.zero).flatMap Sec.cs = sixCells (sealRow k g first ds 0) m := by
  rw [x9D]
  congr 1
  apply ext_getElem?
  intro i
  simp only [List.getElem?_replicate, List.getElem?_map, List.getElem?_range]
  by_cases hi : i < m <;> simp [hi, sealRow]
 rw [e0] at hmk
 have HR := kH hR
 have HT := kH hT
 have HG := kH hgood
 have hb0 := kH ((kB w.heap.size w).alloc (kR _) (.cells (sixCells (sealRow k g first ds 0) m).toArray 66))
 have hrow0 : (w.alloc (.cells (sixCells (sealRow k g first ds 0) m).toArray 66)).ownsRow w.heap.size 66 128 (.slice (some ⟨w.heap.size, 0, none⟩) m m) m (sixCells (sealRow k g first ds 0) m) :=
  ⟨x1Z _ _, .inr ⟨w.heap.size, m, _, rfl, kR _, kW w _ _, kR _, by simp [maxLen]; omega, by rw [size_toArray, x1Z], take_of_length_le (by rw [toList_toArray, x1Z]; omega)⟩⟩
 have HROW := kH hrow0
 clear hR hT hgood e0 hrow0 hi0 hz0 hz1 hz2
 obtain ⟨Zs, hz6, hzl⟩ : ∃ Zs : List Value, (∀ w, (zeroValue 66).run prog w = .ok (.agg Zs.toArray) w) /\ Zs.length = 128 := ⟨_, x0P, Sec.cs_len _⟩
 have hus := underlying66
 have hib : ∀ s : Sec, (prog.info? 66).map (·.size) = some s.cs.length := fun s => by rw [Sec.cs_len]; exact x0X
 go_enter func145, ntmps145
 go_wp2_with fail
 generalize hw1 : w.alloc (.cells (sixCells (sealRow k g first ds 0) m).toArray 66) = w1 at *
 go_loopg [20] m (fun gk j wr => ∃ q : Nat, q <= m /\ gk = m - q /\ j = .int .i64 q /\ Below w.heap.size w wr /\ wr.ownsRow w.heap.size 66 128 (.slice (some ⟨w.heap.size, 0, none⟩) m m) m (sixCells (sealRow k g first ds q) m))
 case atStart => exact ⟨0, by omega, by omega, rfl, hb0.out, HROW.out⟩
 case round =>
  obtain ⟨q, hq, rfl, rfl, hb, hrow⟩ := hrel
  by_cases hlt : q < m
  ·obtain ⟨ad, a, cc, rfl, hc, hby⟩ := (HR.out.below hb).at_ hlt
   have HT1 := kH (show Tab wr from fun i hi => (hb.cell (p := ⟨0, i, none⟩) hpos).trans (HT.out i hi))
   have HBY := kH hby
   have HRW := kH hrow
   have HB := kH hb
   have hk1 : (q : Int) < (m : Int) := by omega
   clear hby hrow hb
   go_wp2_with fail
   refine (xLH k g ((first : Int) + q) a cc (ds q) _ wr HBY.out HT1.out).mono ?_
   rintro e w5 ⟨rfl, b5⟩
   rw [HG.out q hlt]
   simp only [errV, Sec.v]
   have HS := kH (xEY k g first ds q)
   generalize sealRes k g ((first : Int) + q) (ds q) = s at *
   have R5 := kH (x06 HRW.out fun x hx => b5.block x (x02 HRW.out x hx))
   have B5 := kH (HB.out.trans (b5.mono HB.out.size))
   have R6 := kH (R5.out.alloc (.cells s.cs.toArray 66))
   have B6 := kH (B5.out.alloc B5.out.size (.cells s.cs.toArray 66))
   have BX := kH (kW w5 66 s.cs.toArray)
   have hth : (w5.alloc (.cells s.cs.toArray 66)).there w.heap.size (q * 128) s.cs.toArray.size := by
    have h128 : s.cs.toArray.size = 128 := by simp [Sec.cs_len]
    rw [h128]; exact xC6 R6.out hlt
   have hib2 : (prog.info? 66).map (·.size) = some s.cs.toArray.size := by rw [size_toArray]; exact hib s
   have hs5 := B5.out.size
   clear R5 B5 b5 HRW HB HT1 HBY hc
   go_wp2_with (first
    | (refine x07 rfl 66 (.tmp 13) (.tmp 34) rfl w5.heap.size rfl s.cs Zs.toArray rfl rfl (hib s) (by simp [Sec.cs_len, hzl]) s.one ?_)
    | (refine wpList_load_mid rfl 66 (.tmp 13) rfl w5.heap.size 0 rfl s.cs _ BX.out.range hus rfl (hib s) ?_)
    | (refine wpList_store_mid rfl 66 (.tmp 42) (.tmp 41) rfl w.heap.size (q * 128) s.cs.toArray rfl rfl hth hib2 (all_oneCell_toArray s.one) ?_))
   go_roundg (m - (q + 1))
   case measure => omega
   case rel =>
    refine ⟨q + 1, by omega, rfl, by go_num, B6.out.grown (x0F w.heap.size _ _ _).1 B6.out.size (fun x hx => by injection hx with hx; omega), ?_⟩
    rw [<- HS.out]
    exact xGC s R6.out hlt
  ·obtain rfl : q = m := by omega
   go_wp2
   go_ret2
   exact ⟨_, rfl, hrow, hb⟩
def jcells (n g : Nat) (gen : Nat) (vs vt : Value) (used : Nat) (stuck : Bool) : Array Value := #[.int .i64 (areaOf n), .int .i64 (logOf n), .pointer (some ⟨g, 0, none⟩), .int .i64 gen, vs, vt, .int .i64 used, .bool stuck]
structure RowV where
 at_ : Nat
 A : OA
 c : Nat
 ss : List Sec
def RowV.cs (r : RowV) : List Value := [.int .i64 r.at_, .slice r.A r.ss.length r.c]
def DM.putRows : DM -> List RowV -> DM × Nat
 | d, [] => (d, 0)
 | d, r :: l => if (d.putRow r.at_ r.ss).2 = 0 then (d.putRow r.at_ r.ss).1.putRows l else d.putRow r.at_ r.ss
theorem xA3 (r : RowV) : r.cs.length = 2 := rfl
theorem xN0 : (prog.info? 181).map (·.size) = some 2 := by kernel_rfl
theorem x5L (w : World) : (zeroValue 181).run prog w = .ok (.agg #[.int .i64 0, .slice none 0 0]) w := by kernel_rfl
theorem RowV.one (r : RowV) : ∀ u ∈ r.cs, u.oneCell' = true := by
 intro u hu
 simp [RowV.cs] at hu
 rcases hu with rfl | rfl <;> rfl
theorem xL0 {l : List RowV} (h : Reads w B 2 A l.length (l.flatMap RowV.cs)) {k : Nat} (hk : k < l.length) :
  ∃ ad r, A = some ad /\ ad.block < B /\ l[k]? = some r /\ ∀ j u, r.cs[j]? = some u -> w.cell? ((ad.add (k * 2)).add j) = some u := by
 obtain ⟨ad, e, hb, hc⟩ := h.2 (by omega)
 have hx : l[k]? = some (l[k]'hk) := List.getElem?_eq_getElem hk
 refine ⟨ad, _, e, hb, hx, fun j u hj => ?_⟩
 have hlt : j < 2 := by
  rcases Nat.lt_or_ge j 2 with h' | h'
  ·exact h'
  ·rw [List.getElem?_eq_none (by rw [xA3]; omega)] at hj; cases hj
 rw [x1Q]
 exact hc _ _ (by rw [x1K RowV.cs 2 xA3 l k j _ hx hlt]; exact hj)
def stepsOf (l : List RowV) : Nat := (l.map fun r => r.ss.length + 1).sum
theorem Far.putRow : ∀ (ss : List Sec) (d : DM) (i m : Nat), Far d (m + ss.length + 1) -> Far (d.putRow i ss).1 m
 | [], d, i, m, h => by
  simp only [DM.putRow, length_nil] at h ⊢
  unfold DM.flush
  split
  ·exact Far.step h
  ·have e := Far.step h
   exact ⟨e.steps, e.left, by show 0 + m <= _; have := e.wait; omega⟩
 | s :: ss, d, i, m, h => by
  simp only [DM.putRow, length_cons] at h ⊢
  have e : Far (d.write i s) (m + ss.length + 1) := Far.write (h.less (by omega)) i s
  split
  ·exact Far.putRow ss _ _ m e
  ·exact e.less (by omega)
theorem xAT {op : Oper} (ty : TypeId) (x : Operand) (ho : op.op = .load ty x) (g : Nat) (cs : List Value) (d : TypeDesc) (hx : a.eval x = .pointer (some ⟨g, 0, none⟩)) (hB : Blk w g ty cs.toArray)
 (hu : P.underlying ty = some d) (hd : d.isRow = true) (hi : (P.info? ty).map (·.size) = some cs.length) : (execOp a.eval op).run P w = .ok (.value (.agg cs.toArray)) w := by
 unfold execOp
 simp only [ho, hx, Instr.loadAt, Instr.sureAddr, Sem.run_bind, Sem.run_pure, kS, run_loadVar_mid w g 0 ty cs d hB.range hu hd hi]
theorem x63 (h : Holds w0 w g d X) (J : Array Value) (hJ : Blk w gj 176 J) (hJ1 : J[2]? = some (.pointer (some ⟨g, 0, none⟩))) (hgj : gj ∈ X) (A : OA) (c : Nat) (l : List RowV) (hA : ∀ k ∈ blkOf A, k ∈ X)
 (hR : Reads w w.heap.size 2 A l.length (l.flatMap RowV.cs)) (hrows : ∀ r ∈ l, (∀ k ∈ blkOf r.A, k ∈ X) /\ Reads w w.heap.size 128 r.A r.ss.length (r.ss.flatMap Sec.cs) /\ r.at_ + r.ss.length <= 1000000) (hf : Far d (stepsOf l)) (hll : l.length <= 1000) (hok : (d.putRows l).2 = 0) :
  Calls prog 96 #[.pointer (some ⟨gj, 0, none⟩), .slice A l.length c] w fun e w' => e = .returned .nilIface /\ Holds w0 w' g (d.putRows l).1 X /\ Keep X w w' := by
 have hXl : ∀ k ∈ X, k < w.heap.size := by obtain ⟨F, h1, h2, h3⟩ := h; exact fun k hk => (h3 k hk).2
 have H := kH h
 have HJ := kH hJ
 have HR := kH hR
 have HA := kH hA
 have HX := kH hXl
 have HRS := kH hrows
 have HOK := kH hok
 clear h hJ hR hA hXl hrows hok
 have hz := x5L
 have hur := underlying181
 go_enter func96, ntmps96
 go_wp2
 go_loopg [10] l.length (fun gk j wr => ∃ (k : Nat) (d' : DM), k <= l.length /\ gk = l.length - k /\ j = .int .i64 k /\ Holds w0 wr g d' X /\ Keep X w wr /\ d'.putRows (l.drop k) = d.putRows l /\ Far d' (stepsOf (l.drop k)))
 case atStart => exact ⟨0, d, by omega, by omega, rfl, H.out, ⟨kR _, fun _ _ => rfl⟩, by simp, by simpa using hf⟩
 case round =>
  obtain ⟨k, d', hk, rfl, rfl, hd, hkp, hpr, hfar⟩ := hrel
  by_cases hlt : k < l.length
  ·have hR1 : Reads wr wr.heap.size 2 A l.length (l.flatMap RowV.cs) := HR.out.blk (fun q hq => hkp.2 q (HA.out q hq)) hkp.1
   obtain ⟨ad, r, rfl, hadb, hr, hc⟩ := xL0 hR1 hlt
   obtain ⟨hrA, hrR, hri⟩ := HRS.out r (mem_of_getElem? hr)
   have hdrop : l.drop k = r :: l.drop (k + 1) := by
    rw [drop_eq_getElem_cons hlt]
    congr 1
    exact Option.some.inj ((List.getElem?_eq_getElem hlt).symm.trans hr)
   have hunf : d'.putRows (l.drop k) = if (d'.putRow r.at_ r.ss).2 = 0 then (d'.putRow r.at_ r.ss).1.putRows (l.drop (k + 1)) else d'.putRow r.at_ r.ss := by
    rw [hdrop]; rfl
   rw [hpr] at hunf
   have hzero : (d'.putRow r.at_ r.ss).2 = 0 := by
    by_cases hh : (d'.putRow r.at_ r.ss).2 = 0
    ·exact hh
    ·rw [if_neg hh] at hunf
     have := HOK.out
     rw [hunf] at this
     exact this
   rw [if_pos hzero] at hunf
   have hst : stepsOf (l.drop k) = stepsOf (l.drop (k + 1)) + r.ss.length + 1 := by
    rw [hdrop]; unfold stepsOf; simp; omega
   rw [hst] at hfar
   have hfw := Far.putRow r.ss d' r.at_ _ hfar
   have BX := kH (kW wr 181 r.cs.toArray)
   have DX := kH (hd.push (.cells r.cs.toArray 181))
   have hal : Below wr.heap.size wr (wr.alloc (.cells r.cs.toArray 181)) := (kB _ _).alloc (kR _) _
   have hX1 : ∀ q ∈ X, q < wr.heap.size := fun q hq => kL (HX.out q hq) hkp.1
   have KX := kH (hkp.trans (Keep.below hal hX1))
   have BJ := kH ((hkp.blk hgj HJ.out).alloc (.cells r.cs.toArray 181))
   have RR := kH (hrR.blk (w' := wr.alloc (.cells r.cs.toArray 181)) (B' := (wr.alloc (.cells r.cs.toArray 181)).heap.size) (fun q hq => KX.out.2 q (hrA q hq)) KX.out.1)
   have HUN := kH hunf
   have HZE := kH hzero
   have HFW := kH hfw
   have HFA := kH (hfar.less (show r.ss.length + 1 <= stepsOf (l.drop (k + 1)) + r.ss.length + 1 by omega))
   have hi2 : (prog.info? 181).map (·.size) = some r.cs.length := xN0
   clear hd hkp hpr hfar hR1 hr hdrop hunf hfw hX1 hst hzero hal hrR
   go_wp2_with (first
    | (refine x20 rfl 181 (.tmp 12) rfl _ rfl r.cs _ hc hur rfl hi2 ?_)
    | (refine x07 rfl 181 (.tmp 6) (.tmp 13) rfl wr.heap.size rfl r.cs _ rfl rfl hi2 rfl r.one ?_))
   have hSx : Blk (wr.alloc (.cells r.cs.toArray 181)).drew wr.heap.size 181 r.cs.toArray /\ Blk (wr.alloc (.cells r.cs.toArray 181)).drew gj 176 J := ⟨BX.out, BJ.out⟩
   refine x09 (fun w' => Blk w' wr.heap.size 181 r.cs.toArray /\ Blk w' gj 176 J) 99 (by kernel_rfl) ?_
   refine tV 0 (.agg r.cs.toArray) rfl (fun w hw => xAT 181 (.tmp 6) rfl _ _ _ rfl hw.1 hur rfl hi2) hSx ?_
   refine tV 1 (.pointer (some ⟨gj, 0, none⟩)) rfl (fun w _ => by kernel_rfl) hSx ?_
   refine tV 2 (.pointer (some ⟨gj, 0, none⟩)) rfl (fun w _ => by go_simp) hSx ?_
   refine tV 3 (.pointer (some ⟨gj, 2, none⟩)) rfl (fun w _ => by kernel_rfl) hSx ?_
   refine tV 4 (.pointer (some ⟨g, 0, none⟩)) rfl (fun w hw => by have q : w.cell? ⟨gj, 2, none⟩ = some (.pointer (some ⟨g, 0, none⟩)) := (hw.2.cell 2).trans hJ1; go_simp) hSx ?_
   refine tO 5 ?_
   refine x03 (by kernel_rfl) (xI5 DX.out.drew r.A r.c r.at_ r.ss (fun q hq => kM _ (hrA q hq)) RR.out HFA.out hri) ?_
   rintro e w6 ⟨rfl, h6, k6⟩
   rw [HZE.out]
   have k6' : Keep (wr.heap.size :: X) (wr.alloc (.cells r.cs.toArray 181)) w6 := ⟨k6.1, k6.2⟩
   have hS6 : Blk w6 wr.heap.size 181 r.cs.toArray /\ Blk w6 gj 176 J := ⟨k6'.blk (by simp) BX.out, k6'.blk (by simp [hgj]) BJ.out⟩
   refine ⟨_, rfl, hS6, ?_⟩
   simp only [nH, pu, nB, nC, nD]
   refine tO 6 ?_
   refine x10 (v := .nilIface) (by kernel_rfl) ⟨hS6, ?_⟩
   simp only [nH, pu, nB, nC, nD]
   refine tE ?_
   have H6 := kH (h6.mono (Y := X) (fun q hq => kM _ hq))
   have K6 := kH (KX.out.trans (Keep.mono k6' (Y := X) (fun q hq => kM _ hq)))
   clear h6 k6 k6' hS6 hSx
   go_wp2
   go_roundg (l.length - (k + 1))
   case measure => omega
   case rel => exact ⟨k + 1, _, by omega, rfl, by go_num, H6.out, K6.out, HUN.out.symm, HFW.out⟩
  ·obtain rfl : k = l.length := by omega
   rw [drop_length] at hpr
   have hse : d.putRows l = (d', 0) := hpr.symm
   go_wp2
   go_ret
   rw [hse]
   exact ⟨rfl, hd, hkp⟩
theorem xPZ {base' : Nat} {e' : TypeId} {s s' n' : Nat} {v v' : Value} {xs' : List Value} (h : w.ownsRow base e s v n xs) (h' : w.ownsRow base' e' s' v' n' xs') (hne : e ≠ e') : ∀ b, v.ownBlock = some b -> v'.ownBlock ≠ some b := by
 intro b hb hb'
 rcases h.2 with ⟨rfl, _⟩ | ⟨g, cap, cur, rfl, _, hh, _⟩
 ·simp [Value.ownBlock] at hb
 ·rcases h'.2 with ⟨rfl, _⟩ | ⟨g', cap', cur', rfl, _, hh', _⟩
  ·simp [Value.ownBlock] at hb'
  ·have e1 : g = b := by simpa [Value.ownBlock] using hb
   have e2 : g' = b := by simpa [Value.ownBlock] using hb'
   subst e1 e2
   rw [hh] at hh'
   injection hh' with hh'
   injection hh' with _ ht
   exact hne ht
theorem x5Q {v : Value} (h : w.ownsRow base e 1 v n xs) : ∃ A c, v = .slice A n c := by
 rcases h.2 with ⟨rfl, hx⟩ | ⟨g, cap, cur, rfl, _⟩
 ·subst hx; exact ⟨none, 0, rfl⟩
 ·exact ⟨_, _, rfl⟩
theorem xI0 : (prog.info? 35).map (fun i => (i.zero, i.size, i.bytes)) = some (some (.slice none 0 0), 1, 24) := by kernel_rfl
def hdr (vs : Nat -> Value) (m : Nat) : List Value := (List.range m).map vs
def pn (d : LN) : Nat := (d.length + 105) / 106
def prow (d : LN) (i : Nat) : LN := (d.drop (106 * i)).take 106
theorem x99 (d : LN) (i : Nat) : (prow d i).length = min 106 (d.length - 106 * i) := by simp [prow]
theorem x3D {d : LN} (h : ∀ b ∈ d, b < 256) (i : Nat) : ∀ b ∈ prow d i, b < 256 := fun b hb => h b (mem_of_mem_drop (mem_of_mem_take hb))
theorem xMR (rs : Nat -> Value) (v : Value) (k : Nat) : hdr (fun i => if i = k then v else rs i) (k + 1) = hdr rs k ++ [v] := by
 unfold hdr
 rw [range_succ, map_append]
 congr 1
 ·refine map_congr_left fun i hi => ?_
  have := mem_range.1 hi
  rw [if_neg (by omega)]
 ·simp
section
open Go.RowKit Go.Shelf Go.BigFrame
attribute [local go_sem] Oper.semAt_some
def chunkA (A : OA) (k : Nat) : OA := A.map (·.add (106 * k))
def chunkN (d : LN) (k : Nat) : Nat := min 106 (d.length - 106 * k)
def Keep2 (Bs Bn : Nat) (W W' : World) : Prop := W'.heap[Bs]? = W.heap[Bs]? /\ W'.heap[Bn]? = W.heap[Bn]?
theorem Keep2.refl (Bs Bn : Nat) (W : World) : Keep2 Bs Bn W W := ⟨rfl, rfl⟩
theorem Keep2.trans {A B C : World} (h : Keep2 Bs Bn A B) (k : Keep2 Bs Bn B C) : Keep2 Bs Bn A C := ⟨k.1.trans h.1, k.2.trans h.2⟩
theorem Keep2.drewN {A B : World} (h : Keep2 Bs Bn A B) (q : Nat) : Keep2 Bs Bn A (B.drewN q) := h
theorem Keep2.cells {A B : World} (h : Keep2 Bs Bn A B) {u v : Value} (h1 : A.cell? ⟨Bs, 0, none⟩ = some u) (h2 : A.cell? ⟨Bn, 0, none⟩ = some v) : B.cell? ⟨Bs, 0, none⟩ = some u /\ B.cell? ⟨Bn, 0, none⟩ = some v :=
  ⟨(World.cell?_of_block (w := A) (a := ⟨Bs, 0, none⟩) h.1).trans h1, (World.cell?_of_block (w := A) (a := ⟨Bn, 0, none⟩) h.2).trans h2⟩
theorem Keep2.put (h1 : Bs < w.heap.size) (h2 : Bn < w.heap.size) (W : World) (l : Nat) (o o' : Obj) (hl : w.heap.size <= l) (_ : W.heap[l]? = some o) (_ : o.isCells = false) (_ : o.isWalk = false) : Keep2 Bs Bn W (W.putObj l o') := by
 have hg := grownBy_putObj' W l o'
 have hlt : l < W.heap.size := by
  have h := (Array.getElem?_eq_some_iff.1 (by assumption : W.heap[l]? = some o)).1
  exact h
 exact ⟨hg.block Bs (by omega) (fun e => by injection e with e; omega), hg.block Bn (by omega) (fun e => by injection e with e; omega)⟩
def encC (A : OA) (d : LN) (k : Nat) : Array Value := #[.slice (chunkA A k) (chunkN d k) (chunkN d k)]
theorem xJ7 (F : Fence) (n : Nat) (hF : ∀ k, F.fn k) (hro : F.round = none) (hn : 1 <= n) (l Bs Bn : Nat) (A : OA) (c : Nat) (d : LN) (hl : d.length <= 20000) (hc : d.length <= c) (hcm : c <= 9223372036854775807) (J Jx : LN -> World -> Prop)
 (hY : ∀ pre x W, J pre W -> pre.length < pn d -> YieldAt F (n - 1) prog l (encC A d x) W fun e W' =>
 (e = .returned (.bool true) /\ J (pre ++ [x]) W' /\ Keep2 Bs Bn W W') ∨ (e = .returned (.bool false) /\ Jx (pre ++ [x]) W'))
 (W : World) (hBc : W.cell? ⟨Bs, 0, none⟩ = some (.slice A d.length c)) (hNc : W.cell? ⟨Bn, 0, none⟩ = some (.int .i64 106)) (h0 : J [] W) (hJd : ∀ pre W q, J pre W -> J pre (W.drewN q)) :
  CallsIn F n prog 248 #[.func (.yield l) #[] #[], .pointer (some ⟨Bs, 0, none⟩), .pointer (some ⟨Bn, 0, none⟩)] W fun e W' => (∃ v, e = .returned v) ∧
   ((∃ ys, ys = List.range (pn d) /\ J ys W') ∨ (∃ pre, (∃ k, k <= pn d /\ pre = List.range k) /\ Jx pre W')) := by
 refine callsIn_of_wp func248 rfl (hF _) ?_ hro
 simp only [ntmps248, size_toArray, length_cons, length_nil, Nat.reduceAdd, Nat.reduceSub, Array.replicate_succ, Array.replicate_zero, push_toArray, append_toArray, nil_append, cons_append]
 have HY := kH hY
 clear hY
 gi_wp2
 gi_loopw [4] (fun i wr => ∃ k : Nat, k <= pn d /\ i = .int .i64 (106 * (k : Int)) /\ J (List.range k) wr /\ Keep2 Bs Bn W wr)
  (fun i _ => 21000 - (intOf i).toNat)
 case atStart => exact ⟨0, kY _, by simp, h0, Keep2.refl _ _ _⟩
 case round =>
  obtain ⟨k, hk, rfl, hJs, hnx⟩ := hrel
  obtain ⟨hc1, hc2⟩ := hnx.cells hBc hNc
  by_cases hlt : k < pn d
  ·have Hs := kH (show List.range (k + 1) = List.range k ++ [k] from range_succ)
   have hkd : 106 * k < d.length := by unfold pn at hlt; omega
   have HH := kH (kA (fun q => HY.out _ k (wr.drewN q) (hJd _ _ q hJs) (by rw [length_range]; exact hlt)) (kA (fun q => hnx.drewN q) hlt))
   clear hJs hnx hlt hk
   obtain ⟨j, hj⟩ : ∃ j : Nat, j = 106 * k := ⟨_, rfl⟩
   have hji : 106 * (k : Int) = (j : Int) := by omega
   have Hj := kH (kA hj hji)
   rw [hji]
   rw [<- hj] at hkd
   clear hj hji
   have hjd : (j : Int) < (d.length : Int) := by omega
   have hj0 : (0 : Int) <= (j : Int) := by omega
   have hjc : ¬ (c = j) := by omega
   by_cases hm : 106 <= d.length - j
   ·have hmin : min 106 (d.length - j) = 106 := by omega
    have hmi : ¬ (((d.length - j : Nat) : Int) < 106) := by omega
    gi_wp2
    refine wpIn_region_quiet_lit hro (by kernel_rfl) (by kernel_rfl) ?_
    repeat (gi_big_quiet_step (fail))
    refine wpQuietIn_nil ?_
    rintro _ ⟨nq, rfl⟩
    obtain ⟨fn, tmps, assign, body, hy, hR⟩ := HH.out.1 nq
    dsimp only [encC, chunkA, chunkN] at hy
    rw [<- Hj.out.1, hmin] at hy
    have hc1q : (wr.drewN nq).cell? ⟨Bs, 0, none⟩ = some (.slice A d.length c) := hc1
    have hc2q : (wr.drewN nq).cell? ⟨Bn, 0, none⟩ = some (.int .i64 106) := hc2
    clear hc1 hc2
    generalize hW : wr.drewN nq = wq at *
    have HB2 := HH.out.2.1 nq
    have Hlt := HH.out.2.2
    rw [hW] at HB2
    have HB3 := kH HB2
    clear HH HB2 hW
    gi_wp2
    refine hR.mono ?_
    rintro e W3 (⟨rfl, hJ3, hk3⟩ | ⟨rfl, hJx3⟩)
    ·have hc3 : W3.cell? ⟨Bn, 0, none⟩ = some (.int .i64 106) := (hk3.cells hc1q hc2q).2
     gi_wp2
     go_roundw
     case rel => exact ⟨k + 1, by omega, by have := Hj.out.1; congr 1; omega, by rw [Hs.out]; exact hJ3, HB3.out.trans hk3⟩
     case measure => simp [intOf]; have := Hj.out.1; omega
    ·gi_wp2
     refine bodyPost_ret (results_none rfl _ _ _) rfl ?_
     exact ⟨⟨_, rfl⟩, .inr ⟨_, ⟨k + 1, by omega, Hs.out.symm⟩, hJx3⟩⟩
   ·have hmin : min 106 (d.length - j) = d.length - j := by omega
    have hmi : (((d.length - j : Nat) : Int) < 106) := by omega
    gi_wp2
    refine wpIn_region_quiet_lit hro (by kernel_rfl) (by kernel_rfl) ?_
    repeat (gi_big_quiet_step (fail))
    refine wpQuietIn_nil ?_
    rintro _ ⟨nq, rfl⟩
    obtain ⟨fn, tmps, assign, body, hy, hR⟩ := HH.out.1 nq
    dsimp only [encC, chunkA, chunkN] at hy
    rw [<- Hj.out.1, hmin] at hy
    have hc1q : (wr.drewN nq).cell? ⟨Bs, 0, none⟩ = some (.slice A d.length c) := hc1
    have hc2q : (wr.drewN nq).cell? ⟨Bn, 0, none⟩ = some (.int .i64 106) := hc2
    clear hc1 hc2
    generalize hW : wr.drewN nq = wq at *
    have HB2 := HH.out.2.1 nq
    have Hlt := HH.out.2.2
    rw [hW] at HB2
    have HB3 := kH HB2
    clear HH HB2 hW
    gi_wp2
    refine hR.mono ?_
    rintro e W3 (⟨rfl, hJ3, hk3⟩ | ⟨rfl, hJx3⟩)
    ·have hc3 : W3.cell? ⟨Bn, 0, none⟩ = some (.int .i64 106) := (hk3.cells hc1q hc2q).2
     gi_wp2
     go_roundw
     case rel => exact ⟨k + 1, by omega, by have := Hj.out.1; congr 1; omega, by rw [Hs.out]; exact hJ3, HB3.out.trans hk3⟩
     case measure => simp [intOf]; have := Hj.out.1; omega
    ·gi_wp2
     refine bodyPost_ret (results_none rfl _ _ _) rfl ?_
     exact ⟨⟨_, rfl⟩, .inr ⟨_, ⟨k + 1, by omega, Hs.out.symm⟩, hJx3⟩⟩
  ·obtain rfl : k = pn d := by omega
   have hge : ¬ (106 * ((pn d : Nat) : Int) < (d.length : Int)) := by unfold pn; omega
   gi_wp2
   go_end0
   exact ⟨⟨_, rfl⟩, .inl hJs⟩
theorem xJG (a : OA) (len cap : Nat) (w : World) :
  Calls prog 207 #[.slice a len cap, .int .i64 106] w fun e w' => e = .returned (.func (.func 248) #[] #[.pointer (some ⟨w.heap.size, 0, none⟩), .pointer (some ⟨w.heap.size + 1, 0, none⟩)]) /\ w' = (w.alloc (.cells #[.slice a len cap] 35)).alloc (.cells #[.int .i64 106] 3) := by
 go_enter func207, ntmps207
 go_wp2
 go_ret
 exact ⟨rfl, rfl⟩
theorem xF1 (W : World) (q : Nat) : W.grownBy (W.drewN q) none := have h := World.grownBy.refl W none; ⟨h.os, h.tape, h.output, h.size, h.block⟩
theorem xEZ (F : Fence) (n : Nat) (hF : ∀ k, F.fn k) (hro : F.round = none) (hn : 1 <= n) (Bs Bn : Nat) (A : OA) (c : Nat) (d : LN) (hl : d.length <= 20000) (hc : d.length <= c) (hcm : c <= 9223372036854775807) (w : World) (hBs : Bs < w.heap.size) (hBn : Bn < w.heap.size)
 (hcs : w.cell? ⟨Bs, 0, none⟩ = some (.slice A d.length c)) (hcn : w.cell? ⟨Bn, 0, none⟩ = some (.int .i64 106)) :
  SeqStopsK F n prog 248 #[.pointer (some ⟨Bs, 0, none⟩), .pointer (some ⟨Bn, 0, none⟩)] (encC A d) (Keep2 Bs Bn) (fun ys => ys = List.range (pn d)) (fun pre => ∃ k, k <= pn d /\ pre = List.range k) (pn d) w := fun l J Jx W hW hJ _ hY h0 =>
 xJ7 F n hF hro hn l Bs Bn A c d hl hc hcm J Jx hY W ((hW.cell (p := ⟨Bs, 0, none⟩) hBs).trans hcs) ((hW.cell (p := ⟨Bn, 0, none⟩) hBn).trans hcn) h0
  (fun pre W1 q h => hJ pre W1 _ none h (xF1 W1 q) (fun r e => by cases e))
theorem xF6 {d : LN} (h : Bytes w B A d.length d) (x : Nat) : Bytes w B (chunkA A x) (chunkN d x) (prow d x) := by
  unfold chunkN
  by_cases hx : 106 * x < d.length
  · have h1 : Reads w B 1 (A.map (·.add (106 * x))) (d.length - 106 * x) (u8s (d.drop (106 * x))) := by
      have := h.1.cut (k := 106 * x) (cap := d.length + 1) (by omega) (by omega)
      rw [if_neg (by omega)] at this
      simpa [u8s, map_drop] using this
    have h2 : Bytes w B (chunkA A x) (d.length - 106 * x) (d.drop (106 * x)) := ⟨h1, fun b hb => h.2 b (mem_of_mem_drop hb)⟩
    have h3 := h2.take (k := min 106 (d.length - 106 * x)) (by omega)
    have e : (d.drop (106 * x)).take (min 106 (d.length - 106 * x)) = prow d x := by
      unfold prow
      rw [<- length_drop, Nat.min_comm, <- take_take]
      exact take_of_length_le (by rw [length_take]; exact Nat.min_le_right _ _)
    rwa [e] at h3
  · have e : prow d x = [] := by unfold prow; rw [drop_of_length_le (by omega)]; rfl
    rw [e, show min 106 (d.length - 106 * x) = 0 by omega]
    exact ⟨Reads.none_, fun b hb => by cases hb⟩
end
def PartsPost (d : LN) (w : World) (e : Ending) (w' : World) : Prop :=
  ∃ v rs, e = .returned v /\ w'.ownsRow w.heap.size 35 1 v (pn d) (hdr rs (pn d)) /\ (∀ i, i < pn d -> Own w' w.heap.size (rs i) (prow d i).length (prow d i)) /\ (∀ i j, i < pn d -> j < pn d -> i ≠ j -> ∀ b, (rs i).ownBlock = some b -> (rs j).ownBlock ≠ some b) /\ Below w.heap.size w w'
section
open Go.RowKit Go.Shelf Go.BigFrame
attribute [local go_sem] Oper.semAt_some
structure PartsAt (W : World) (w : World) (d : LN) (v : Value) (rs : Nat -> Value) (pre : LN) : Prop where
 box : Boxed W w.heap.size 42 v
 row : W.ownsRow (w.heap.size + 3) 35 1 v pre.length (hdr rs pre.length)
 own : ∀ i, i < pre.length -> Own W (w.heap.size + 3) (rs i) (prow d (pre.getD i 0)).length (prow d (pre.getD i 0))
 dis : ∀ i j, i < pre.length -> j < pre.length -> i ≠ j -> ∀ b, (rs i).ownBlock = some b -> (rs j).ownBlock ≠ some b
 bel : Below w.heap.size w W
theorem xEJ {v : Value} (h : W.ownsRow base e 1 v n xs) {r : Nat} {o : Obj} (ho : W.heap[r]? = some o) (hc : o.isCells = false) : v.ownBlock ≠ some r := by
 intro e1
 rcases h.2 with ⟨rfl, _⟩ | ⟨g, cap, cur, rfl, _, hg, _⟩
 ·cases e1
 ·injection e1 with e1
  subst e1
  rw [ho] at hg
  injection hg with hg
  subst hg
  cases hc
theorem PartsAt.grown {W' : World} {d : LN} {v : Value} {rs : Nat -> Value} {pre : LN} {row : Option Nat} (h : PartsAt W w d v rs pre) (hg : W.grownBy W' row) (hr : ∀ r, row = some r -> w.heap.size + 3 <= r /\ ∃ o : Obj, W.heap[r]? = some o /\ o.isCells = false) : PartsAt W' w d v rs pre := by
 have hno : ∀ {e : TypeId} {v : Value} {n : Nat} {xs : List Value}, W.ownsRow (w.heap.size + 3) e 1 v n xs -> v.ownBlock = none ∨ v.ownBlock ≠ row := fun {e v n xs} hx => by
  rcases hv : v.ownBlock with _ | b
  ·exact .inl rfl
  ·right
   intro e1
   obtain ⟨-, o, ho, hc⟩ := hr b e1.symm
   exact xEJ hx ho hc hv
 refine ⟨h.box.kept hg (fun e => ?_), World.ownsRow.kept h.row hg (hno h.row), fun i hi => Own.grown (h.own i hi) hg (hno (h.own i hi)), h.dis, h.bel.grown hg h.bel.size (fun k e => ?_)⟩
 ·have := (hr _ e.symm).1; omega
 ·have := (hr k e).1; omega
theorem x35 {F : Fence} {nF : Nat} {K : Act -> World -> Prop} (s x : Operand)
 (ho : o.op = .call {callee := .builtin .append, args := #[s, x], argTypes := #[42, 42] })
 (base : Nat) (v : Value) (n : Nat) (xs : List Value) (hs : a.eval s = v) (hown : w.ownsRow base 35 1 v n xs)
 (B : Nat) (A : OA) (c : Nat) (u : Value) (hx : a.eval x = .slice A 1 c) (hr : Reads w B 1 A 1 [u]) (hu : u.oneCell' = true) (hn : n <= 1000000) (hbase : base <= w.heap.size)
 (h : ∀ v' w', w'.ownsRow base 35 1 v' (n + 1) (xs ++ [u]) -> w.grownBy w' v.ownBlock -> K (a.put o.dst v') w') : Oper.wpIn F nF prog o a w K Q := by
 obtain ⟨i0, hi0, hz0, hz1, hz2⟩ := info_parts xI0
 obtain ⟨v', w', hrun, r1, r2, -⟩ := x5F (P := prog) w base 42 o.type 35 i0 _ 1 24 underlying42 hi0 hz0 hz1 hz2 rfl (by omega) v n xs hown B A 1 c [u] hr (by
  intro u' hu'
  obtain rfl := mem_singleton.1 hu'
  exact hu) (by simp only [maxLen]; omega) (by omega) hbase
 unfold Oper.wpIn
 refine ⟨?_, ?_⟩
 ·simp [Oper.about, ho, resolve, Target.leads, Sem.run_pure]
 ·rw [Oper.semAt_plain F _ _ (by rw [ho]; intro c hc'; cases hc')]
  simp [execOp, ho, resolve, invoke, builtin, hs, hx, hrun, Result.andThen]
  exact h v' w' r1 r2
theorem x3R {W2 W3 : World} {d : LN} {v v3 : Value} {rs : Nat -> Value} {pre : LN} {x : Nat} {A2 : OA} {n2 c2 : Nat} (hA : PartsAt W w d v rs pre) (b2 : W.grownBy W2 none) (ho2 : Own W2 W.heap.size (.slice A2 n2 c2) n2 (prow d x)) (hn2 : n2 = (prow d x).length)
 (h3 : W3.ownsRow (w.heap.size + 3) 35 1 v3 (pre.length + 1) (hdr rs pre.length ++ [.slice A2 n2 c2])) (g3 : (W2.alloc (.cells #[.slice A2 n2 c2] 35)).grownBy W3 v.ownBlock) (hW0 : w.heap.size + 3 <= W.heap.size) :
    KeepsFrom B W (W3.setCell ⟨w.heap.size, 0, none⟩ v3) /\ Keep2 (w.heap.size + 1) (w.heap.size + 1 + 1) W (W3.setCell ⟨w.heap.size, 0, none⟩ v3) /\ ∃ v rs, PartsAt (W3.setCell ⟨w.heap.size, 0, none⟩ v3) w d v rs (pre ++ [x]) := by
  have hA2 := hA.grown b2 (fun r e => by cases e)
  have hg := World.grownBy_alloc W2 (.cells #[.slice A2 n2 c2] 35) none
  have hA3 := hA2.grown hg (fun r e => by cases e)
  have ho3 := ho2.alloc (.cells #[.slice A2 n2 c2] 35)
  have hlo : ∀ k, v.ownBlock = some k -> w.heap.size + 3 <= k := fun k hk => (kD hA3.row k hk).1
  have hs2 := b2.size
  have hs3 := hg.size
  have hne : ∀ {base : Nat} {u : Value} {n : Nat} {bs : LN}, Own (W2.alloc (.cells #[.slice A2 n2 c2] 35)) base u n bs -> u.ownBlock = none ∨ u.ownBlock ≠ v.ownBlock := fun {base u n bs} hu => by
    rcases hb : u.ownBlock with _ | b
    · exact .inl rfl
    · exact .inr (fun e => xPZ hu hA3.row (by decide) b hb e.symm)
  have hbx := hA3.box.kept g3 (fun e => by have := hlo _ e.symm; omega)
  refine ⟨?_, ?_, v3, fun i => if i = pre.length then .slice A2 n2 c2 else rs i, ?_, ?_, ?_, ?_, ?_⟩
  · refine KeepsFrom.trans (KeepsFrom.trans (KeepsFrom.trans (KeepsFrom.of_grownBy b2 (fun j e => by cases e)) ((KeepsOthers.alloc _ _).from _)) ((KeepsOthers.of_grownBy g3 (fun j o e ho => ?_)).from _)) ((KeepsOthers.setCell _ _ _).from _)
    cases hc : o.isCells with
    | true => rfl
    | false => exact absurd e (xEJ hA3.row ho hc)
  · have hf : ∀ q, w.heap.size < q -> q < w.heap.size + 3 -> (W3.setCell ⟨w.heap.size, 0, none⟩ v3).heap[q]? = W.heap[q]? := fun q h1 h2 => by
      rw [kE _ _ _ _ (by show q ≠ w.heap.size; omega), g3.block q (by omega) (fun e => by have := hlo _ e.symm; omega), hg.block q (by omega) (by simp), b2.block q (by omega) (by simp)]
    exact ⟨hf _ (by omega) (by omega), hf _ (by omega) (by omega)⟩
  · exact hbx.set v3
  · rw [kN, length_singleton, xMR]
    exact ownsRow_setCell_below h3 (by show w.heap.size < _; omega) _
  · intro i hi
    rw [kN, length_singleton] at hi
    change Own _ _ (if i = pre.length then Value.slice A2 n2 c2 else rs i) _ _
    by_cases h : i = pre.length
    · subst h
      rw [if_pos rfl, show (pre ++ [x]).getD pre.length 0 = x by simp, <- hn2]
      exact ownsRow_setCell_below ((Own.grown ho3 g3 (hne ho3)).weaken hW0) (by show w.heap.size < _; omega) _
    · rw [if_neg h, show (pre ++ [x]).getD i 0 = pre.getD i 0 by simp [List.getD, List.getElem?_append_left (show i < pre.length by omega)]]
      have := hA3.own i (by omega)
      exact ownsRow_setCell_below (Own.grown this g3 (hne this)) (by show w.heap.size < _; omega) _
  · intro i j hi hj hij b hb
    rw [kN, length_singleton] at hi hj
    change Value.ownBlock (if i = pre.length then Value.slice A2 n2 c2 else rs i) = some b at hb
    change Value.ownBlock (if j = pre.length then Value.slice A2 n2 c2 else rs j) ≠ some b
    by_cases h : i = pre.length
    · rw [if_pos h] at hb
      rw [if_neg (by omega)]
      intro e
      have := (kD ho2 b hb).1
      have := (kD (hA.own j (by omega)) b e).2
      omega
    · rw [if_neg h] at hb
      by_cases h' : j = pre.length
      · rw [if_pos h']
        intro e
        have := (kD ho2 b e).1
        have := (kD (hA.own i (by omega)) b hb).2
        omega
      · rw [if_neg h']
        exact hA.dis i j (by omega) (by omega) hij b hb
  · exact (hA3.bel.grown g3 hA3.bel.size (fun k hk => by have := hlo k hk; omega)).setCell (p := ⟨w.heap.size, 0, none⟩) (kR _) _
theorem xCB (W : World) (tmps : Array Value) (v : Value) (h : tmps.getD 2 undef = v) : (results Tryz.f146 tmps).run prog W = .ok v W := by
 have h' : tmps[2]?.getD undef = v := by simpa using h
 unfold results
 rw [Tryz.results146]
 simp [h']
theorem xNP (A : OA) (c : Nat) (d : LN) (w : World) (h : Bytes w w.heap.size A d.length d) (hl : d.length <= 20000) (hc : d.length <= c) (hcm : c <= 9223372036854775807) :
  CallsIn Fence.wide 5 prog 146 #[.slice A d.length c] w (PartsPost d w) := by
 have hro : Fence.wide.round = none := rfl
 have h1 : 1 <= 5 := by omega
 have HD := kH h
 clear h
 refine callsIn_of_wp_marks func146 rfl trivial ?_ hro
 simp only [ntmps146, size_toArray, length_cons, length_nil, Nat.reduceAdd, Nat.reduceSub, Array.replicate_succ, Array.replicate_zero, push_toArray, append_toArray, nil_append, cons_append]
 gi_wp2_with (refine ⟨trivial, ?_⟩; gi_at_call 207; refine (callsIn_wide.2 (xJG _ _ _ _)).mono ?_; rintro e w' ⟨rfl, rfl⟩)
 have hbx : Boxed (((w.alloc (.cells #[.slice none 0 0] 42)).alloc (.cells #[.slice A d.length c] 35)).alloc (.cells #[.int .i64 106] 3)) w.heap.size 42 (.slice none 0 0) := ((Boxed.new w _ _).alloc _).alloc _
 have hb0 : Below w.heap.size w (((w.alloc (.cells #[.slice none 0 0] 42)).alloc (.cells #[.slice A d.length c] 35)).alloc (.cells #[.int .i64 106] 3)) := (((kB _ w).alloc (kR _) _).alloc (by simp) _).alloc (by simp; omega) _
 have hc1 : (((w.alloc (.cells #[.slice none 0 0] 42)).alloc (.cells #[.slice A d.length c] 35)).alloc (.cells #[.int .i64 106] 3)).cell? ⟨w.heap.size + 1, 0, none⟩ = some (.slice A d.length c) := by
  have := ((Boxed.new (w.alloc (.cells #[.slice none 0 0] 42)) 35 (.slice A d.length c)).alloc (.cells #[.int .i64 106] 3)).cell
  simpa using this
 have hc2 : (((w.alloc (.cells #[.slice none 0 0] 42)).alloc (.cells #[.slice A d.length c] 35)).alloc (.cells #[.int .i64 106] 3)).cell? ⟨w.heap.size + 1 + 1, 0, none⟩ = some (.int .i64 106) := by
  have := (Boxed.new ((w.alloc (.cells #[.slice none 0 0] 42)).alloc (.cells #[.slice A d.length c] 35)) 3 (.int .i64 106)).cell
  simpa using this
 have hsz : (((w.alloc (.cells #[.slice none 0 0] 42)).alloc (.cells #[.slice A d.length c] 35)).alloc (.cells #[.int .i64 106] 3)).heap.size = w.heap.size + 3 := by simp
 generalize ((w.alloc (.cells #[.slice none 0 0] 42)).alloc (.cells #[.slice A d.length c] 35)).alloc (.cells #[.int .i64 106] 3) = W0 at *
 refine wpIn_rangeFunc_ownH hro h1 (gf := 248) (lb := #[.pointer (some ⟨w.heap.size + 1, 0, none⟩), .pointer (some ⟨w.heap.size + 1 + 1, 0, none⟩)]) rfl trivial (enters_of func248 (by kernel_rfl) rfl)
  (xEZ Fence.wide 4 (fun _ => trivial) hro (by omega) (w.heap.size + 1) (w.heap.size + 1 + 1) A c d hl hc hcm W0 (by omega) (by omega) hc1 hc2) Keep2.trans (Keep2.put (by omega) (by omega)) (kB _ _) (fun _ => rfl)
  (fun pre W => ∃ v rs, PartsAt W w d v rs pre)
  (fun _ _ _ => False)
  ?own1 (fun c s W W' row h => h.elim) ⟨.slice none 0 0, fun _ => undef, hbx, World.ownsRow_nil _ _ _ 1, fun i hi => absurd hi (by simp), fun i j hi => absurd hi (by simp), hb0⟩
  (fun x a' W => a' = { tmps := #[.slice A d.length c, undef, .slice none 0 0, .pointer (some ⟨w.heap.size, 0, none⟩), .slice (chunkA A x) (chunkN d x) (chunkN d x), .slice A d.length c, .func (.func 248) #[] #[.pointer (some ⟨w.heap.size + 1, 0, none⟩), .pointer (some ⟨w.heap.size + 1 + 1, 0, none⟩)], .slice (chunkA A x) (chunkN d x) (chunkN d x), undef, undef, undef, undef, undef, undef], defers := [] })
  (fun x a' => ownFrom_pure _ _)
  ?assign ?body ?done ?stop
 case own1 =>
  rintro s W W' row ⟨v, rs, h⟩ hg hr
  exact ⟨v, rs, h.grown hg (fun r e => by have := hr r e; rw [hsz] at this; exact this)⟩
 case assign =>
  rintro l pre x W K hI hK
  have HK := kH hK
  have HI := kH hI
  clear hK hI
  unfold encC
  gi_wp2
  exact HK.out _ _ (KeepsFrom.refl _ _) (Keep2.refl _ _ _) HI.out rfl
 case stop =>
  rintro D c pre W hD - h
  exact h.elim
 case done =>
  rintro D ys W hD rfl ⟨v, rs, hA⟩ hK
  have hcl := hA.box.cell
  have HA := kH hA
  have HK := kH hK
  clear hA hK
  gi_wp2
  refine ⟨by simp, .inl ⟨_, _, rfl, run_takeDeferred HK.out, ?_⟩⟩
  have hkp := grownBy_putObj' W D (.deferred none)
  have hA2 := HA.out.grown hkp (fun r e => by cases e; exact ⟨by omega, _, HK.out, rfl⟩)
  have hrow := hA2.row
  rw [length_range] at hrow
  refine ⟨_, xCB _ _ v rfl, v, rs, rfl, x0B hrow (by omega), fun i hi => ?_, fun i j hi hj => hA2.dis i j (by rw [length_range]; exact hi) (by rw [length_range]; exact hj), hA2.bel⟩
  have := hA2.own i (by rw [length_range]; exact hi)
  rw [show (List.range (pn d)).getD i 0 = i by simp [List.getD, hi]] at this
  exact this.weaken (by omega)
 case body =>
  rintro l pre x a' W hlW ⟨rl, hrl⟩ ⟨v, rs, hA⟩ rfl hlt
  have hlsz := (Array.getElem?_eq_some_iff.1 hrl).1
  have hcl := hA.box.cell
  have HA := kH hA
  clear hA hrl
  refine wpIn_block ?_
  have HN := kH (kA (show chunkN d x <= 10000000 by unfold chunkN; omega) (kA (show Bytes W.drew w.heap.size (chunkA A x) (chunkN d x) (prow d x) from (xF6 HD.out x).since HA.out.bel.drew) (show chunkN d x = (prow d x).length by rw [x99]; rfl)))
  have hpl : pre.length <= 189 := by unfold pn at hlt; omega
  have hW0 : w.heap.size + 3 <= W.heap.size := by have h1 : l < W.heap.size := hlsz; omega
  refine wpIn_region_any (by kernel_rfl) ?_
  change wpAnyIn _ _ _ _ _ _ _ _ _ (World.drew _)
  refine wpAnyIn_ready (rs := [0, 1]) (by kernel_rfl) (by simp) ?_
  refine AllReadyIn.cons rfl (fun K hK => ?_) (AllReadyIn.cons rfl (fun K hK => ?_) AllReadyIn.nil)
  ·go_simp
   refine hK _ _ ?_
   clear hK K
   refine wpAnyIn_ready (rs := [1]) (by kernel_rfl) (by simp) ?_
   refine AllReadyIn.cons rfl (fun K hK => ?_) AllReadyIn.nil
   go_simp
   refine hK _ _ ?_
   clear hK K
   refine wpAnyIn_ready (rs := [2]) (by kernel_rfl) (by simp) ?_
   refine AllReadyIn.cons rfl (fun K hK => ?_) AllReadyIn.nil
   go_simp
   gi_wp2_with (refine ⟨trivial, ?_⟩; gi_at_call 105; refine ((callsIn_wide.2 (x0Q (chunkA A x) (chunkN d x) (chunkN d x) (prow d x) _ _ HN.out.1 HN.out.2.1)).inRound l).mono ?_; rintro e W2 ⟨v2, rfl, ho2, b2⟩)
   obtain ⟨A2, c2, rfl, -, -, -⟩ := ho2.form
   have g2 : W.grownBy W2 none := ⟨b2.os, b2.tape, b2.output, b2.size, fun i hi _ => b2.block i hi⟩
   have HA2 := kH (HA.out.grown g2 (fun r e => by cases e))
   have HO2 := kH (kA g2 (show Own W2 W.heap.size (.slice A2 (chunkN d x) c2) (chunkN d x) (prow d x) from ho2))
   have hcl2 := HA2.out.box.cell
   have hcl3 := (HA2.out.box.alloc (.cells #[.slice A2 (chunkN d x) c2] 35)).cell
   clear g2 ho2 b2
   refine wpAnyIn_ready (rs := [3]) (by kernel_rfl) (by simp) ?_
   refine AllReadyIn.cons rfl (fun K hK => ?_) AllReadyIn.nil
   go_simp
   refine hK _ _ ?_
   clear hK K
   refine wpAnyIn_ready (rs := [4]) (by kernel_rfl) (by simp) ?_
   refine AllReadyIn.cons rfl (fun K hK => ?_) AllReadyIn.nil
   refine x35 (.tmp 8) (.tmp 11) rfl (w.heap.size + 3) v pre.length (hdr rs pre.length) rfl (World.ownsRow.alloc HA2.out.row _) _ (some ⟨W2.heap.size, 0, none⟩) 1 (.slice A2 (chunkN d x) c2) rfl (Reads.new W2 [Value.slice A2 (chunkN d x) c2] 35 (0, 0)) rfl (by omega) (by rw [kJ]; have := HO2.out.1.size; omega) ?_
   intro v3 W3 h3 g3
   obtain ⟨A3, c3, rfl⟩ := x5Q h3
   have hb3 : Boxed W3 w.heap.size 42 v := (HA2.out.box.alloc (.cells #[.slice A2 (chunkN d x) c2] 35)).kept g3 (fun e => by have := (kD HA2.out.row _ e.symm).1; omega)
   have hcl4 := hb3.cell
   have hfz4 := hb3.frozen
   have HF := kH (x3R (B := W0.heap.size) HA.out HO2.out.1 HO2.out.2 HN.out.2.2 h3 g3 (by omega))
   clear h3 g3 hb3
   refine hK _ _ ?_
   clear hK K
   refine wpAnyIn_ready (rs := [5]) (by kernel_rfl) (by simp) ?_
   refine AllReadyIn.cons rfl (fun K hK => ?_) AllReadyIn.nil
   go_simp
   refine hK _ _ ?_
   clear hK K
   refine wpAnyIn_done (by kernel_rfl) ?_ _
   exact HF.out
  ·go_simp
   refine hK _ _ ?_
   clear hK K
   refine wpAnyIn_ready (rs := [0, 2]) (by kernel_rfl) (by simp) ?_
   refine AllReadyIn.cons rfl (fun K hK => ?_) (AllReadyIn.cons rfl (fun K hK => ?_) AllReadyIn.nil)
   ·go_simp
    refine hK _ _ ?_
    clear hK K
    refine wpAnyIn_ready (rs := [2]) (by kernel_rfl) (by simp) ?_
    refine AllReadyIn.cons rfl (fun K hK => ?_) AllReadyIn.nil
    go_simp
    gi_wp2_with (refine ⟨trivial, ?_⟩; gi_at_call 105; refine ((callsIn_wide.2 (x0Q (chunkA A x) (chunkN d x) (chunkN d x) (prow d x) _ _ HN.out.1 HN.out.2.1)).inRound l).mono ?_; rintro e W2 ⟨v2, rfl, ho2, b2⟩)
    obtain ⟨A2, c2, rfl, -, -, -⟩ := ho2.form
    have g2 : W.grownBy W2 none := ⟨b2.os, b2.tape, b2.output, b2.size, fun i hi _ => b2.block i hi⟩
    have HA2 := kH (HA.out.grown g2 (fun r e => by cases e))
    have HO2 := kH (kA g2 (show Own W2 W.heap.size (.slice A2 (chunkN d x) c2) (chunkN d x) (prow d x) from ho2))
    have hcl2 := HA2.out.box.cell
    have hcl3 := (HA2.out.box.alloc (.cells #[.slice A2 (chunkN d x) c2] 35)).cell
    clear g2 ho2 b2
    refine wpAnyIn_ready (rs := [3]) (by kernel_rfl) (by simp) ?_
    refine AllReadyIn.cons rfl (fun K hK => ?_) AllReadyIn.nil
    go_simp
    refine hK _ _ ?_
    clear hK K
    refine wpAnyIn_ready (rs := [4]) (by kernel_rfl) (by simp) ?_
    refine AllReadyIn.cons rfl (fun K hK => ?_) AllReadyIn.nil
    refine x35 (.tmp 8) (.tmp 11) rfl (w.heap.size + 3) v pre.length (hdr rs pre.length) rfl (World.ownsRow.alloc HA2.out.row _) _ (some ⟨W2.heap.size, 0, none⟩) 1 (.slice A2 (chunkN d x) c2) rfl (Reads.new W2 [Value.slice A2 (chunkN d x) c2] 35 (0, 0)) rfl (by omega) (by rw [kJ]; have := HO2.out.1.size; omega) ?_
    intro v3 W3 h3 g3
    obtain ⟨A3, c3, rfl⟩ := x5Q h3
    have hb3 : Boxed W3 w.heap.size 42 v := (HA2.out.box.alloc (.cells #[.slice A2 (chunkN d x) c2] 35)).kept g3 (fun e => by have := (kD HA2.out.row _ e.symm).1; omega)
    have hcl4 := hb3.cell
    have hfz4 := hb3.frozen
    have HF := kH (x3R (B := W0.heap.size) HA.out HO2.out.1 HO2.out.2 HN.out.2.2 h3 g3 (by omega))
    clear h3 g3 hb3
    refine hK _ _ ?_
    clear hK K
    refine wpAnyIn_ready (rs := [5]) (by kernel_rfl) (by simp) ?_
    refine AllReadyIn.cons rfl (fun K hK => ?_) AllReadyIn.nil
    go_simp
    refine hK _ _ ?_
    clear hK K
    refine wpAnyIn_done (by kernel_rfl) ?_ _
    exact HF.out
   ·go_simp
    gi_wp2_with (refine ⟨trivial, ?_⟩; gi_at_call 105; refine ((callsIn_wide.2 (x0Q (chunkA A x) (chunkN d x) (chunkN d x) (prow d x) _ _ HN.out.1 HN.out.2.1)).inRound l).mono ?_; rintro e W2 ⟨v2, rfl, ho2, b2⟩)
    obtain ⟨A2, c2, rfl, -, -, -⟩ := ho2.form
    have g2 : W.grownBy W2 none := ⟨b2.os, b2.tape, b2.output, b2.size, fun i hi _ => b2.block i hi⟩
    have HA2 := kH (HA.out.grown g2 (fun r e => by cases e))
    have HO2 := kH (kA g2 (show Own W2 W.heap.size (.slice A2 (chunkN d x) c2) (chunkN d x) (prow d x) from ho2))
    have hcl2 := HA2.out.box.cell
    have hcl3 := (HA2.out.box.alloc (.cells #[.slice A2 (chunkN d x) c2] 35)).cell
    clear g2 ho2 b2
    refine wpAnyIn_ready (rs := [0, 3]) (by kernel_rfl) (by simp) ?_
    refine AllReadyIn.cons rfl (fun K hK => ?_) (AllReadyIn.cons rfl (fun K hK => ?_) AllReadyIn.nil)
    ·go_simp
     refine hK _ _ ?_
     clear hK K
     refine wpAnyIn_ready (rs := [3]) (by kernel_rfl) (by simp) ?_
     refine AllReadyIn.cons rfl (fun K hK => ?_) AllReadyIn.nil
     go_simp
     refine hK _ _ ?_
     clear hK K
     refine wpAnyIn_ready (rs := [4]) (by kernel_rfl) (by simp) ?_
     refine AllReadyIn.cons rfl (fun K hK => ?_) AllReadyIn.nil
     refine x35 (.tmp 8) (.tmp 11) rfl (w.heap.size + 3) v pre.length (hdr rs pre.length) rfl (World.ownsRow.alloc HA2.out.row _) _ (some ⟨W2.heap.size, 0, none⟩) 1 (.slice A2 (chunkN d x) c2) rfl (Reads.new W2 [Value.slice A2 (chunkN d x) c2] 35 (0, 0)) rfl (by omega) (by rw [kJ]; have := HO2.out.1.size; omega) ?_
     intro v3 W3 h3 g3
     obtain ⟨A3, c3, rfl⟩ := x5Q h3
     have hb3 : Boxed W3 w.heap.size 42 v := (HA2.out.box.alloc (.cells #[.slice A2 (chunkN d x) c2] 35)).kept g3 (fun e => by have := (kD HA2.out.row _ e.symm).1; omega)
     have hcl4 := hb3.cell
     have hfz4 := hb3.frozen
     have HF := kH (x3R (B := W0.heap.size) HA.out HO2.out.1 HO2.out.2 HN.out.2.2 h3 g3 (by omega))
     clear h3 g3 hb3
     refine hK _ _ ?_
     clear hK K
     refine wpAnyIn_ready (rs := [5]) (by kernel_rfl) (by simp) ?_
     refine AllReadyIn.cons rfl (fun K hK => ?_) AllReadyIn.nil
     go_simp
     refine hK _ _ ?_
     clear hK K
     refine wpAnyIn_done (by kernel_rfl) ?_ _
     exact HF.out
    ·go_simp
     refine hK _ _ ?_
     clear hK K
     refine wpAnyIn_ready (rs := [0]) (by kernel_rfl) (by simp) ?_
     refine AllReadyIn.cons rfl (fun K hK => ?_) AllReadyIn.nil
     go_simp
     refine hK _ _ ?_
     clear hK K
     refine wpAnyIn_ready (rs := [4]) (by kernel_rfl) (by simp) ?_
     refine AllReadyIn.cons rfl (fun K hK => ?_) AllReadyIn.nil
     refine x35 (.tmp 8) (.tmp 11) rfl (w.heap.size + 3) v pre.length (hdr rs pre.length) rfl (World.ownsRow.alloc HA2.out.row _) _ (some ⟨W2.heap.size, 0, none⟩) 1 (.slice A2 (chunkN d x) c2) rfl (Reads.new W2 [Value.slice A2 (chunkN d x) c2] 35 (0, 0)) rfl (by omega) (by rw [kJ]; have := HO2.out.1.size; omega) ?_
     intro v3 W3 h3 g3
     obtain ⟨A3, c3, rfl⟩ := x5Q h3
     have hb3 : Boxed W3 w.heap.size 42 v := (HA2.out.box.alloc (.cells #[.slice A2 (chunkN d x) c2] 35)).kept g3 (fun e => by have := (kD HA2.out.row _ e.symm).1; omega)
     have hcl4 := hb3.cell
     have hfz4 := hb3.frozen
     have HF := kH (x3R (B := W0.heap.size) HA.out HO2.out.1 HO2.out.2 HN.out.2.2 h3 g3 (by omega))
     clear h3 g3 hb3
     refine hK _ _ ?_
     clear hK K
     refine wpAnyIn_ready (rs := [5]) (by kernel_rfl) (by simp) ?_
     refine AllReadyIn.cons rfl (fun K hK => ?_) AllReadyIn.nil
     go_simp
     refine hK _ _ ?_
     clear hK K
     refine wpAnyIn_done (by kernel_rfl) ?_ _
     exact HF.out
theorem xC1 (A : OA) (c : Nat) (d : LN) (w : World) (h : Bytes w w.heap.size A d.length d) (hl : d.length <= 20000) (hc : d.length <= c) (hcm : c <= 9223372036854775807) : Calls prog 146 #[.slice A d.length c] w (PartsPost d w) :=
  callsIn_wide.1 (xNP A c d w h hl hc hcm)
end
theorem x2H (w : World) (g i : Nat) (ty : TypeId) (v : Value) (ht : w.there g i 1) (hi : (P.info? ty).map (·.size) = some 1) (h1 : v.oneCell' = true) :
  (storeVar ty ⟨g, i, none⟩ v).run P w = .ok () (w.setCell ⟨g, i, none⟩ v) := by
 have := run_storeCells_cells (P := P) g i [v] 0 w (fun j hj => by simpa using (ht j (by simpa using hj)).1) (fun j hj => by simpa using (ht j (by simpa using hj)).2) (fun u hu => by simp at hu; subst hu; exact h1)
 have hc : v.cells = #[v] := by cases v <;> first | rfl | cases h1
 cases hq : P.info? ty with
 | none => simp [hq] at hi
 | some i0 =>
  have hs : i0.size = 1 := by simpa [hq] using hi
  simp only [Nat.add_zero] at this
  simp [storeVar, sizeOf, typeInfo, hq, hc, hs, this, World.setCells]
theorem x0I {ops : Array Oper} {rest : List Oper} (hgd : o.guard = none) (ty : TypeId) (x y : Operand) (ho : o.op = .store ty x y)
 (g i : Nat) (t : TypeId) (cs : Array Value) (v : Value) (hx : a.eval x = .pointer (some ⟨g, i, none⟩)) (hy : a.eval y = v) (hB : Blk w g t cs) (hs : i < cs.size) (hi : (P.info? ty).map (·.size) = some 1) (h1 : v.oneCell' = true)
 (h : ∀ w', Blk w' g t (cs.setIfInBounds i v) -> Only [g] w w' -> w'.heap.size = w.heap.size -> wpList P ops Q rest (a.put o.dst undef) w') : wpList P ops Q (o :: rest) a w :=
 wpList_plain hgd fun _ hK => by
  unfold Oper.wp execOp
  simp only [ho, hx, hy, Instr.storeAt, Instr.sureAddr, Sem.run_bind, Sem.run_pure, kS, x2H w g i ty v (hB.there (by omega)) hi h1]
  exact hK _ _ (h _ (hB.set_ i v) ((kU _ _).setCell (.inl (by simp)) _) (by simp [World.setCell]))
noncomputable def bodyS (k g first : Nat) (d : LN) : List Sec := (List.range (pn d)).map fun (i : Nat) => sealRes k g ((first : Int) + (i : Int)) (prow d i)
noncomputable def topS (g : Nat) (d : LN) : List Sec := [sealRes 1 g 0 (numB d.length)]
noncomputable def DM.ckpt (n : Nat) (d : DM) (g : Nat) (st : LN) : DM × Nat :=
  if (d.putRow (stateAt n g) (bodyS 2 g 0 st)).2 = 0 then (d.putRow (stateAt n g) (bodyS 2 g 0 st)).1.putRow (g % 2) (topS g st) else d.putRow (stateAt n g) (bodyS 2 g 0 st)
theorem x42 (f : Nat -> Sec) (m : Nat) : sixCells f m = ((List.range m).map f).flatMap Sec.cs := x9D f m
theorem x1I (d : LN) (i : Nat) : (prow d i).length <= 106 := by rw [x99]; omega
theorem x86 {k g n : Int} (hb : isBoxB k g n = true) (hm : m <= 106) : sealErr k g n m = 0 := by unfold sealErr; rw [if_pos hb, if_pos hm]
theorem x2I {stuck : Bool} (h : Blk w gj 176 (jcells n g gen vs vt used stuck)) : w.rangeAt gj 0 [.int .i64 (areaOf n), .int .i64 (logOf n)] := fun j u hj => by
 rw [Nat.zero_add, h.cell]
 have : j = 0 ∨ j = 1 := by
  have : j < 2 := by simpa using (List.getElem?_eq_some_iff.1 hj).1
  omega
 rcases this with rfl | rfl <;> simpa [jcells] using hj
theorem x2O : (prog.info? 173).map (·.size) = some 2 := by kernel_rfl
theorem x0O (h : Tab w) (hb : Below B w w') (hB : 0 < B) : Tab w' := fun i hi => (hb.cell (p := ⟨0, i, none⟩) hB).trans (h i hi)
theorem xAG (k g first : Nat) (d : LN) : sixCells (sealRow k g first (prow d) (pn d)) (pn d) = (bodyS k g first d).flatMap Sec.cs := by
 rw [x42]
 congr 1
 exact map_congr_left fun i hi => by unfold sealRow; rw [if_pos (mem_range.1 hi)]
theorem x0E (k g first : Nat) (d : LN) : (bodyS k g first d).length = pn d := by simp [bodyS]
theorem xKH (g : Nat) (d : LN) : sixCells (sealRow 1 g (0 : Nat) (fun _ => numB d.length) 1) 1 = (topS g d).flatMap Sec.cs := by
 rw [x42]
 simp [topS, sealRow]
theorem x0H {size : Nat} {v : Value} (h : w.ownsRow base e size v n xs) : ∃ A c, v = .slice A n c := by
 rcases h.2 with ⟨rfl, hn⟩ | ⟨g', cap, cur, rfl, _⟩
 ·rw [hn]; exact ⟨_, _, rfl⟩
 ·exact ⟨_, _, rfl⟩
theorem Holds.more {Y : LN} (h : Holds w0 w g d X) (hb : Below w.heap.size w w') (hY : ∀ k ∈ Y, w.heap.size <= k /\ k < w'.heap.size) : Holds w0 w' g d (Y ++ X) := by
 obtain ⟨F, h1, h2, h3⟩ := h
 refine ⟨F, h1.of (x1V hb h1.under), h2.trans (hb.mono h2.size), fun k hk => ?_⟩
 rcases mem_append.1 hk with hk | hk
 ·exact ⟨fun hF => by have := h1.under _ hF; have := (hY k hk).1; omega, (hY k hk).2⟩
 ·exact ⟨(h3 k hk).1, kL (h3 k hk).2 hb.size⟩
theorem x18 {size : Nat} (h : w.ownsRow base e size (.slice A n c) m xs) : ∀ k ∈ blkOf A, base <= k /\ k < w.heap.size := fun k hk => by
 cases A with
 | none => cases hk
 | some ad =>
  simp only [blkOf, mem_singleton] at hk
  subst hk
  exact kD h ad.block rfl
theorem xIH {st : LN} (hok : (d.ckpt n g st).2 = 0) (A B : OA) (c b : Nat) : (d.putRows [⟨stateAt n g, A, c, bodyS 2 g 0 st⟩, ⟨g % 2, B, b, topS g st⟩]).2 = 0 /\ (d.putRows [⟨stateAt n g, A, c, bodyS 2 g 0 st⟩, ⟨g % 2, B, b, topS g st⟩]).1 = (d.ckpt n g st).1 := by
 unfold DM.ckpt at *
 by_cases h1 : (d.putRow (stateAt n g) (bodyS 2 g 0 st)).2 = 0
 ·rw [if_pos h1] at hok ⊢
  simp [DM.putRows, h1, hok]
 ·rw [if_neg h1] at hok
  exact absurd hok h1
theorem xCA (hn : n <= 4096) : stateAt n g <= 1367 := by
 have h1 := x2M hn
 unfold stateAt
 have : g % 2 = 0 ∨ g % 2 = 1 := by omega
 rcases this with h | h <;> rw [h] <;> omega
theorem xA0 {gen0 : Nat} (h : Holds w0 w g d X) (hJ : Blk w gj 176 (jcells n g gen0 vs vt used false)) (hgj : gj ∈ X) (hgj0 : w0.heap.size <= gj) (hn : n <= 4096)
 (gen : Nat) (hgen : gen <= 4611686018427387904) (A : OA) (c : Nat) (st : LN) (hst : Bytes w w.heap.size A st.length st) (hl : st.length <= 20000) (hlc : st.length <= c) (hcm : c <= 9223372036854775807)
 (hT : Tab w) (hw0 : 0 < w0.heap.size) (hAx : 0 < st.length -> ∀ k ∈ blkOf A, k ∈ X) (hf : Far d (pn st + 3)) (hok : (d.ckpt n gen st).2 = 0) :
    Calls prog 97 #[.pointer (some ⟨gj, 0, none⟩), .int .i64 gen, .slice A st.length c] w fun e w' => ∃ B cc, e = .returned .nilIface /\ Holds w0 w' g (d.ckpt n gen st).1 (blkOf B ++ X) /\ (∀ k ∈ blkOf B, w.heap.size <= k) ∧
      Blk w' gj 176 (jcells n g gen (.slice B st.length cc) (.slice none 0 0) 0 false) /\ Own w' w.heap.size (.slice B st.length cc) st.length st /\ (∀ k ∈ X, k ≠ gj -> w'.heap[k]? = w.heap[k]?) /\ w.heap.size <= w'.heap.size := by
  have hpos : 0 < w.heap.size := kL hw0 h.size
  have hXl : ∀ k ∈ X, k < w.heap.size := by obtain ⟨F, h1, h2, h3⟩ := h; exact fun k hk => (h3 k hk).2
  have h256 := hst.2
  have H := kH h
  have HJ := kH hJ
  have HS := kH hst
  have HT := kH hT
  have HX := kH hXl
  have HOK := kH hok
  have hpn : pn st <= 189 := by unfold pn; omega
  clear h hJ hst hT hXl hok
  go_enter func97, ntmps97
  go_wp2_with fail
  refine (xC1 A c st w HS.out hl hlc hcm).mono ?_
  rintro e w1 ⟨v, rs, rfl, hrow, hown, -, b1⟩
  obtain ⟨Av, cv, rfl⟩ : ∃ Av cv, v = .slice Av (pn st) cv := by
    rcases hrow.2 with ⟨rfl, hn⟩ | ⟨g', cap, cur, rfl, _⟩
    · rw [hn]; exact ⟨_, _, rfl⟩
    · exact ⟨_, _, rfl⟩
  have hRB : RowsB w1 w1.heap.size Av (pn st) rs (prow st) := ⟨kV hrow, fun i hi => by
    obtain ⟨A', c', h1, h2, h3, -⟩ := (hown i hi).form
    refine ⟨A', c', h1, ?_, fun b hb => h256 b (mem_of_mem_drop (mem_of_mem_take hb))⟩
    have := hown i hi
    rw [h1] at this
    exact kV this⟩
  have HRB := kH hRB
  have B1 := kH b1
  have hs1 := b1.size
  clear hrow hown hRB b1
  go_wp2_with fail
  refine (x3H 2 gen 0 Av (pn st) cv rs (prow st) w1 (by omega) (by omega) HRB.out (x0O HT.out B1.out hpos) (kL hpos B1.out.size) (fun i hi => x86 (by simp [isBoxB]; omega) (x1I _ _))).mono ?_
  rintro e w2 ⟨v, rfl, hrow, b2⟩
  obtain ⟨As, cs, rfl⟩ := x0H hrow
  rw [show ((2 : Int)) = ((2 : Nat) : Int) from rfl] at hrow
  rw [xAG] at hrow
  have HRW := kH hrow
  have B2 := kH (B1.out.trans (b2.mono B1.out.size))
  clear hrow b2 HRB
  go_wp2_with fail
  refine (x8V st.length w2).mono ?_
  rintro e w3 ⟨A3, c3, rfl, hown3, b3⟩
  have B3 := kH (B2.out.trans (b3.mono B2.out.size))
  have RW3 := kH (x06 HRW.out fun x hx => b3.block x (x02 HRW.out x hx))
  have HO3 := kH hown3
  clear hown3 b3 HRW
  go_wp2_with fail
  have hRB2 : RowsB (w3.alloc (.cells #[.slice A3 8 c3] 35)) (w3.alloc (.cells #[.slice A3 8 c3] 35)).heap.size (some ⟨w3.heap.size, 0, none⟩) 1 (fun _ => .slice A3 8 c3) (fun _ => numB st.length) := by
    refine ⟨?_, fun i _ => ⟨A3, c3, by rw [x04], ?_, x0Y _⟩⟩
    · have := Reads.new w3 [.slice A3 8 c3] 35 (0, 0)
      simpa using this
    · have := (kV HO3.out).alloc (kR _) (.cells #[.slice A3 8 c3] 35)
      rw [x04]
      exact this.more (by simp)
  have B4 := kH (B3.out.alloc B3.out.size (.cells #[.slice A3 8 c3] 35))
  have RW4 := kH (RW3.out.alloc (.cells #[.slice A3 8 c3] 35))
  generalize w3.alloc (.cells #[.slice A3 8 c3] 35) = w4 at *
  refine (x3H 1 gen 0 _ 1 1 _ _ w4 (by omega) (by omega) hRB2 (x0O HT.out B4.out hpos) (kL hpos B4.out.size) (fun i hi => x86 (by simp [isBoxB]; omega) (by rw [x04]; omega))).mono ?_
  rintro e w5 ⟨v, rfl, hrow, b5⟩
  obtain ⟨At, ct, rfl⟩ := x0H hrow
  rw [xKH] at hrow
  have RT5 := kH hrow
  have B5 := kH (B4.out.trans (b5.mono B4.out.size))
  have RW5 := kH (x06 RW4.out fun x hx => b5.block x (x02 RW4.out x hx))
  have hgl := HX.out gj hgj
  have J5 := kH (HJ.out.below B5.out hgl)
  have hul := underlying173
  have hzr := x5L
  have hzl2 : ∀ w, (zeroValue 173).run prog w = .ok (.agg #[.int .i64 0, .int .i64 0]) w := fun w => by kernel_rfl
  clear hrow b5 hRB2 HO3 RW3 RW4 B1 B2 B3
  go_wp2_with (first
    | (refine wpList_load_mid rfl 173 (.tmp 36) rfl gj 0 rfl [.int .i64 (areaOf n), .int .i64 (logOf n)] _ (x2I J5.out) hul rfl x2O ?_)
    | (go_at_call 148; refine (x8M n gen _ hn).mono ?_; rintro e w6 ⟨rfl, b6⟩)
    | (go_at_call 149; refine (x3J gen _).mono ?_; rintro e w' ⟨rfl, rfl⟩))
  have hcells : (#[.int .i64 (stateAt n gen), .slice As (pn st) cs, .int .i64 ((gen : Int) % 2), .slice At 1 ct] : Array Value) = (([⟨stateAt n gen, As, cs, bodyS 2 gen 0 st⟩, ⟨gen % 2, At, ct, topS gen st⟩] : List RowV).flatMap RowV.cs).toArray := by
    simp [RowV.cs, x0E, topS]
  have hmod : (((gen % 2 : Nat) : Nat) : Int) = (gen : Int) % 2 := by omega
  try rw [hmod]
  rw [hcells]
  have B6 := B5.out.trans (b6.mono B5.out.size)
  have RW6 := x06 RW5.out fun x hx => b6.block x (x02 RW5.out x hx)
  have RT6 := x06 RT5.out fun x hx => b6.block x (x02 RT5.out x hx)
  have J6 := J5.out.below b6 J5.out.lt
  have hB7 := B6.alloc B6.size (.cells (([⟨stateAt n gen, As, cs, bodyS 2 gen 0 st⟩, ⟨gen % 2, At, ct, topS gen st⟩] : List RowV).flatMap RowV.cs).toArray 181)
  have RW7 := RW6.alloc (.cells (([⟨stateAt n gen, As, cs, bodyS 2 gen 0 st⟩, ⟨gen % 2, At, ct, topS gen st⟩] : List RowV).flatMap RowV.cs).toArray 181)
  have RT7 := RT6.alloc (.cells (([⟨stateAt n gen, As, cs, bodyS 2 gen 0 st⟩, ⟨gen % 2, At, ct, topS gen st⟩] : List RowV).flatMap RowV.cs).toArray 181)
  have J7 := kH (J6.alloc (.cells (([⟨stateAt n gen, As, cs, bodyS 2 gen 0 st⟩, ⟨gen % 2, At, ct, topS gen st⟩] : List RowV).flatMap RowV.cs).toArray 181))
  have BR := kW w6 181 (([⟨stateAt n gen, As, cs, bodyS 2 gen 0 st⟩, ⟨gen % 2, At, ct, topS gen st⟩] : List RowV).flatMap RowV.cs).toArray
  have hrr := Reads.newN w6 (([⟨stateAt n gen, As, cs, bodyS 2 gen 0 st⟩, ⟨gen % 2, At, ct, topS gen st⟩] : List RowV).flatMap RowV.cs) 2 2 181 (0, 0) rfl
  have hs4 := B4.out.size
  have hX' : ∀ k ∈ w6.heap.size :: (blkOf As ++ blkOf At), w.heap.size <= k /\ k < (w6.alloc (.cells (([⟨stateAt n gen, As, cs, bodyS 2 gen 0 st⟩, ⟨gen % 2, At, ct, topS gen st⟩] : List RowV).flatMap RowV.cs).toArray 181)).heap.size := fun k hk => by
    simp only [mem_cons, mem_append] at hk
    rcases hk with rfl | hk | hk
    · exact ⟨B6.size, by simp⟩
    · have := x18 RW7 k hk; omega
    · have := x18 RT7 k hk; omega
  have H7 := kH (H.out.more hB7 hX')
  obtain ⟨ho1, ho2⟩ := xIH HOK.out As At cs ct
  have hsa := xCA (g := gen) hn
  have hfar : Far d (stepsOf ([⟨stateAt n gen, As, cs, bodyS 2 gen 0 st⟩, ⟨gen % 2, At, ct, topS gen st⟩] : List RowV)) := hf.less (by simp [stepsOf, x0E, topS])
  have HRW7 := kH (kV RW7)
  have HRT7 := kH (kV RT7)
  have HB7 := kH hB7
  have hrr' := kH (hrr.more (B' := (w6.alloc (.cells (([⟨stateAt n gen, As, cs, bodyS 2 gen 0 st⟩, ⟨gen % 2, At, ct, topS gen st⟩] : List RowV).flatMap RowV.cs).toArray 181)).heap.size) (by simp))
  have hrows : ∀ r ∈ ([⟨stateAt n gen, As, cs, bodyS 2 gen 0 st⟩, ⟨gen % 2, At, ct, topS gen st⟩] : List RowV), (∀ k ∈ blkOf r.A, k ∈ w6.heap.size :: (blkOf As ++ blkOf At) ++ X) /\ Reads (w6.alloc (.cells (([⟨stateAt n gen, As, cs, bodyS 2 gen 0 st⟩, ⟨gen % 2, At, ct, topS gen st⟩] : List RowV).flatMap RowV.cs).toArray 181)) (w6.alloc (.cells (([⟨stateAt n gen, As, cs, bodyS 2 gen 0 st⟩, ⟨gen % 2, At, ct, topS gen st⟩] : List RowV).flatMap RowV.cs).toArray 181)).heap.size 128 r.A r.ss.length (r.ss.flatMap Sec.cs) /\ r.at_ + r.ss.length <= 1000000 := by
    intro r hr
    simp only [mem_cons, not_mem_nil, or_false] at hr
    rcases hr with rfl | rfl
    · refine ⟨fun k hk => by simp [show k ∈ blkOf As from hk], ?_, ?_⟩
      · show Reads _ _ 128 As (bodyS 2 gen 0 st).length _
        rw [x0E]
        exact HRW7.out
      · show stateAt n gen + (bodyS 2 gen 0 st).length <= _
        rw [x0E]; omega
    · refine ⟨fun k hk => by simp [show k ∈ blkOf At from hk], HRT7.out, ?_⟩
      show gen % 2 + 1 <= _
      omega
  have HRS := kH hrows
  clear hrows RW6 RT6 J6 RW7 RT7 hB7 B6 hcells hrr
  generalize hwx : w6.alloc (.cells (([⟨stateAt n gen, As, cs, bodyS 2 gen 0 st⟩, ⟨gen % 2, At, ct, topS gen st⟩] : List RowV).flatMap RowV.cs).toArray 181) = wx at *
  refine (x63 H7.out _ J7.out rfl (by simp [hgj]) (some ⟨w6.heap.size, 0, none⟩) 2 [⟨stateAt n gen, As, cs, bodyS 2 gen 0 st⟩, ⟨gen % 2, At, ct, topS gen st⟩] (fun k hk => by simp [blkOf] at hk; simp [hk]) hrr'.out HRS.out hfar (by simp) ho1).mono ?_
  rintro e w8 ⟨rfl, h8, k8⟩
  rw [ho2] at h8
  have H8 := kH (h8.mono (Y := X) (fun k hk => mem_append_right _ hk))
  have hk8 : Keep X wx w8 := Keep.mono k8 (fun k hk => mem_append_right _ hk)
  have J8 := kH (hk8.blk hgj J7.out)
  have hkx : ∀ k ∈ X, w8.heap[k]? = w.heap[k]? := fun k hk => (hk8.2 k hk).trans (HB7.out.block k (HX.out k hk))
  have hsz8 : w.heap.size <= w8.heap.size := kT HB7.out.size hk8.1
  have HS8 : Bytes w8 w8.heap.size A st.length st := ⟨(Nat.eq_zero_or_pos st.length).elim (fun h0 => ⟨HS.out.1.1, fun hn => absurd hn (by omega)⟩) (fun h0 => HS.out.1.blk (fun k hk => hkx k (hAx h0 k hk)) hsz8), HS.out.2⟩
  have HKX := kH hkx
  have HSS := kH HS8
  clear h8 k8 hk8 hkx HS8 H7 J7 HRS hrr' HRW7 HRT7
  go_wp2_with fail
  refine (x0Q A st.length c st w8 _ (by omega) HSS.out).mono ?_
  rintro e w9 ⟨v, rfl, hown, b9⟩
  obtain ⟨B, cc, rfl⟩ := x0H hown
  have J9 := kH (J8.out.below b9 J8.out.lt)
  have HO := kH hown
  have B9 := kH b9
  clear hown b9
  go_wp2_with (first
    | (refine x0I rfl 3 (.tmp 57) (.tmp 53) rfl gj 3 176 _ (.int .i64 gen) rfl rfl J9.out (by simp [jcells]) (by kernel_rfl) rfl ?_; intro wa hba hoa hsa)
    | (refine x0I rfl 35 (.tmp 59) (.tmp 55) rfl gj 4 176 _ (.slice B st.length cc) rfl rfl hba (by simp [jcells]) (by kernel_rfl) rfl ?_; intro wb hbb hob hsb)
    | (refine x0I rfl 42 (.tmp 63) (.const (.slice none 0 0)) rfl gj 5 176 _ (.slice none 0 0) rfl rfl hbb (by simp [jcells]) (by kernel_rfl) rfl ?_; intro wc hbc hoc hsc)
    | (refine x0I rfl 3 (.tmp 65) (.const (.int .i64 0)) rfl gj 6 176 _ (.int .i64 0) rfl rfl hbc (by simp [jcells]) (by kernel_rfl) rfl ?_; intro wd hbd hod hsd))
  go_ret
  have hon : Only [gj] w9 wd := ((hoa.trans hob (kF _ _)).trans hoc (kF _ _)).trans hod (kF _ _)
  have hgl8 := J8.out.lt
  refine ⟨B, cc, rfl, (H8.out.more B9.out (fun k hk => x18 HO.out k hk)).kept (by simp [hgj]) hon hgj0, (fun k hk => by have := x18 HO.out k hk; omega), ?_, ?_, ?_, ?_⟩
  · simpa [jcells] using hbd
  · have := x06 HO.out (w' := wd) (fun k hk => by
      have h1 := x0G HO.out k hk
      exact hon.block k (x02 HO.out k hk) (by simp; omega))
    exact x0B this hsz8
  · intro k hk hne
    have hk1 := HX.out k hk
    rw [hon.block k (kL (kL hk1 hsz8) B9.out.size) (by simpa using hne), B9.out.block k (kL hk1 hsz8)]
    exact HKX.out k hk
  · exact kT hsz8 (kT B9.out.size hon.size)
theorem x7G (w : World) : (zeroValue 176).run prog w = .ok (.agg #[.int .i64 0, .int .i64 0, .pointer none, .int .i64 0, .slice none 0 0, .slice none 0 0, .int .i64 0, .bool false]) w := by kernel_rfl
theorem x8R (w : World) : (zeroValue 173).run prog w = .ok (.agg #[.int .i64 0, .int .i64 0]) w := by kernel_rfl
theorem xF7 (h : Holds w0 w g d X) (hdn : d.n = n) (hn : n <= 4096) (hn8 : 8 <= n) (A : OA) (c : Nat) (st : LN) (hst : Bytes w w.heap.size A st.length st) (hl : st.length <= 20000) (hlc : st.length <= c) (hcm : c <= 9223372036854775807) (hfit : pn st <= areaOf n)
 (hT : Tab w) (hw0 : 0 < w0.heap.size) (hAx : ∀ k ∈ blkOf A, k ∈ X) (hf : Far d (pn st + 6)) (hok1 : (d.putRow 0 [Sec.zero, Sec.zero]).2 = 0) (hok2 : ((d.putRow 0 [Sec.zero, Sec.zero]).1.ckpt n 1 st).2 = 0) :
  Calls prog 53 #[.pointer (some ⟨g, 0, none⟩), .slice A st.length c] w fun e w' => ∃ gj B cc, e = .returned (.tuple #[.pointer (some ⟨gj, 0, none⟩), .nilIface]) /\ Holds w0 w' g ((d.putRow 0 [Sec.zero, Sec.zero]).1.ckpt n 1 st).1 (blkOf B ++ gj :: X) ∧
   Blk w' gj 176 (jcells n g 1 (.slice B st.length cc) (.slice none 0 0) 0 false) /\ Own w' w.heap.size (.slice B st.length cc) st.length st /\ Keep X w w' /\ w.heap.size <= gj /\ gj ∉ blkOf B := by
 have hpos : 0 < w.heap.size := kL hw0 h.size
 have hXl : ∀ k ∈ X, k < w.heap.size := by obtain ⟨F, h1, h2, h3⟩ := h; exact fun k hk => (h3 k hk).2
 have H := kH h
 have HS := kH hst
 have HT := kH hT
 have HX := kH hXl
 have HOK := kH hok1
 have HOK2 := kH hok2
 have hz := x7G
 have hz2 := x8R
 clear h hst hT hXl hok1 hok2
 go_enter func53, ntmps53
 go_wp2_with fail
 refine (x4J H.out).mono ?_
 rintro e w' ⟨rfl, rfl⟩
 rw [hdn]
 have hd8 : decide ((n : Int) < 8) = false := by simp; omega
 have hd8' : decide (n < 8) = false := by simp; omega
 go_wp2_with fail
 refine (x4J H.out).mono ?_
 rintro e w' ⟨rfl, rfl⟩
 rw [hdn]
 go_wp2_with fail
 refine (x6W n w (by omega) hn).mono ?_
 rintro e w1 ⟨rfl, b1⟩
 go_wp2_with fail
 have hjb := kW w1 176 (jcells n g 0 (.slice none 0 0) (.slice none 0 0) 0 false)
 have hB2 := b1.alloc b1.size (.cells (jcells n g 0 (.slice none 0 0) (.slice none 0 0) 0 false) 176)
 have hH2 := H.out.more (Y := [w1.heap.size]) hB2 (fun k hk => by simp at hk; subst hk; exact ⟨b1.size, by simp⟩)
 have hgs := b1.size
 have JB := kH hjb
 have B2 := kH hB2
 have H2 := kH hH2
 unfold jcells at *
 generalize hw2 : w1.alloc (.cells #[.int .i64 (areaOf n), .int .i64 (logOf n), .pointer (some ⟨g, 0, none⟩), .int .i64 (0 : Nat), .slice none 0 0, .slice none 0 0, .int .i64 (0 : Nat), .bool false] 176) = w2 at *
 generalize hgj : w1.heap.size = gj at *
 clear hw2 hjb hB2 hH2 b1 hz hgj
 have hpf : decide ((areaOf n : Int) < (partsOf st.length : Int)) = false := by have : partsOf st.length = pn st := rfl; simp; omega
 have hpf2 : decide (areaOf n < partsOf st.length) = false := by have : partsOf st.length = pn st := rfl; simp; omega
 have hSx : Blk w2.drew gj 176 #[.int .i64 (areaOf n), .int .i64 (logOf n), .pointer (some ⟨g, 0, none⟩), .int .i64 (0 : Nat), .slice none 0 0, .slice none 0 0, .int .i64 (0 : Nat), .bool false] := JB.out
 refine x09 (fun w' => Blk w' gj 176 #[.int .i64 (areaOf n), .int .i64 (logOf n), .pointer (some ⟨g, 0, none⟩), .int .i64 (0 : Nat), .slice none 0 0, .slice none 0 0, .int .i64 (0 : Nat), .bool false]) 99 (by kernel_rfl) ?_
 refine tV 0 (.slice A st.length c) rfl (fun w _ => by kernel_rfl) hSx ?_
 refine tV 1 (.int .i64 st.length) rfl (fun w _ => by go_simp) hSx ?_
 refine tV 3 (.pointer (some ⟨gj, 0, none⟩)) rfl (fun w _ => by kernel_rfl) hSx ?_
 refine tV 4 (.pointer (some ⟨gj, 0, none⟩)) rfl (fun w _ => by go_simp) hSx ?_
 refine tV 5 (.pointer (some ⟨gj, 0, none⟩)) rfl (fun w _ => by kernel_rfl) hSx ?_
 refine tV 6 (.pointer (some ⟨gj, 0, none⟩)) rfl (fun w _ => by kernel_rfl) hSx ?_
 refine tV 7 (.int .i64 (areaOf n)) rfl (fun w hw => by have q : w.cell? ⟨_, 0, none⟩ = some (.int .i64 (areaOf n)) := hw.cell 0; go_simp) hSx ?_
 refine tO 2 ?_
 refine x03 (by kernel_rfl) (x2K st.length _ (by omega)) ?_
 rintro e w' ⟨rfl, hww⟩
 subst hww
 refine ⟨_, rfl, hSx, ?_⟩
 simp only [nH, pu, nB, nC, nD]
 refine tV 8 (.bool false) rfl (fun w _ => by go_simp) hSx ?_
 refine tE ?_
 clear hSx
 obtain ⟨i0, hi0, hz0, hz1, hz2'⟩ := info_parts x8X
 have hmk : ∀ w, (Instr.makeSlice 179 (.int .i64 2) (.int .i64 2)).run prog w = .ok (.slice (some ⟨w.heap.size, 0, none⟩) 2 2) (w.alloc (.cells ([Sec.zero, Sec.zero].flatMap Sec.cs).toArray 66)) := by
  intro w
  have := run_make (P := prog) w 179 66 i0 Sec.zero.v underlying179 hi0 hz0 .i64 .i64 2 2 (by omega) (by omega) (by rw [hz2']; omega) (by omega)
  rw [hz1, show ((2 : Int).toNat) = 2 from rfl, x60] at this
  exact this
 have hzr := x5L
 clear hi0 hz0 hz1 hz2'
 generalize hZZ : ([Sec.zero, Sec.zero].flatMap Sec.cs) = ZZ at hmk
 go_wp2_with fail
 have hzl : ZZ.length = 256 := by rw [<- hZZ]; simp [Sec.cs_len]
 have hrS := Reads.newN w2 ZZ 2 128 66 (0, 0) (by rw [hzl])
 have hrR := Reads.newN (w2.alloc (.cells ZZ.toArray 66)) [.int .i64 (0 : Nat), .slice (some ⟨w2.heap.size, 0, none⟩) 2 2] 1 2 181 (0, 0) rfl
 have hby : Below w2.heap.size w2 (((w2.alloc (.cells ZZ.toArray 66)).alloc (.cells #[.int .i64 (0 : Nat), .slice (some ⟨w2.heap.size, 0, none⟩) 2 2] 181)).drew) := (xKV w2 _ _).drew
 have hrS' := (hrS.alloc (by simp) (.cells #[.int .i64 (0 : Nat), .slice (some ⟨w2.heap.size, 0, none⟩) 2 2] 181)).drew
 have hysz : (((w2.alloc (.cells ZZ.toArray 66)).alloc (.cells #[.int .i64 (0 : Nat), .slice (some ⟨w2.heap.size, 0, none⟩) 2 2] 181)).drew).heap.size = w2.heap.size + 2 := by
  show ((w2.alloc _).alloc _).heap.size = _
  simp
 have hS1 : (w2.alloc (.cells ZZ.toArray 66)).heap.size = w2.heap.size + 1 := by simp
 rw [hS1] at hrR
 have hrR' := hrR.drew
 have JY := JB.out.below hby JB.out.lt
 have HY := H2.out.more (Y := [w2.heap.size + 1, w2.heap.size]) hby (fun k hk => by simp at hk; rw [hysz]; omega)
 have BY := B2.out.trans (hby.mono B2.out.size)
 have hok : (d.putRows [⟨0, some ⟨w2.heap.size, 0, none⟩, 2, [Sec.zero, Sec.zero]⟩]).2 = 0 /\ (d.putRows [⟨0, some ⟨w2.heap.size, 0, none⟩, 2, [Sec.zero, Sec.zero]⟩]).1 = (d.putRow 0 [Sec.zero, Sec.zero]).1 := by
  simp [DM.putRows, HOK.out]
 have JY := kH JY
 have HY := kH HY
 have BY := kH BY
 have HRS := kH hrS'
 have HRR := kH hrR'
 clear hrS hrR hby hrS' hrR' hS1 JB H2 B2
 generalize hwy : ((w2.alloc (.cells ZZ.toArray 66)).alloc (.cells #[.int .i64 (0 : Nat), .slice (some ⟨w2.heap.size, 0, none⟩) 2 2] 181)).drew = wy at *
 refine (x63 HY.out _ JY.out rfl (by simp) (some ⟨w2.heap.size + 1, 0, none⟩) 1 [⟨0, some ⟨w2.heap.size, 0, none⟩, 2, [Sec.zero, Sec.zero]⟩] (fun k hk => by simp [blkOf] at hk; simp [hk]) (HRR.out.more (by rw [hysz]; omega)) (fun r hr => by
  simp only [mem_cons, not_mem_nil, or_false] at hr
  subst hr
  refine ⟨fun k hk => by simp [blkOf] at hk; simp [hk], ?_, by show 0 + 2 <= 1000000; omega⟩
  show Reads wy wy.heap.size 128 (some ⟨w2.heap.size, 0, none⟩) 2 ([Sec.zero, Sec.zero].flatMap Sec.cs)
  rw [hZZ]
  exact HRS.out.more (by rw [hysz]; omega)) (hf.less (by simp [stepsOf])) (by simp) hok.1).mono ?_
 rintro e w5 ⟨rfl, h5, k5⟩
 rw [hok.2] at h5
 have H5 := kH (h5.mono (Y := gj :: X) (fun k hk => by simp at hk ⊢; rcases hk with hk | hk <;> simp [hk]))
 have hk5 : Keep (gj :: X) wy w5 := Keep.mono k5 (fun k hk => by simp at hk ⊢; rcases hk with hk | hk <;> simp [hk])
 have J5 := kH (hk5.blk (by simp) JY.out)
 have hkx : ∀ k ∈ X, w5.heap[k]? = w.heap[k]? := fun k hk => (hk5.2 k (by simp [hk])).trans (BY.out.block k (HX.out k hk))
 have hsz5 : w.heap.size <= w5.heap.size := kT BY.out.size hk5.1
 have hb5 : Bytes w5 w5.heap.size A st.length st := ⟨HS.out.1.blk (fun k hk => hkx k (hAx k hk)) hsz5, HS.out.2⟩
 have hT5 : Tab w5 := fun i hi => (h5.since.cell (p := ⟨0, i, none⟩) hw0).trans (((H.out.since).cell (p := ⟨0, i, none⟩) hw0).symm.trans (HT.out i hi))
 have hfar : Far (d.putRow 0 [Sec.zero, Sec.zero]).1 (pn st + 3) := Far.putRow _ d 0 _ (by simpa using hf)
 have HKX := kH hkx
 have HB5 := kH hb5
 have HT5 := kH hT5
 clear h5 k5 hk5 hkx hb5 hT5 JY HY BY HRS HRR
 go_wp2_with fail
 refine (xA0 (vs := .slice none 0 0) (vt := .slice none 0 0) (gen0 := 0) (used := 0) H5.out J5.out (by simp) (by have := H.out.size; omega) hn 1 (by omega) A c st HB5.out hl hlc hcm HT5.out hw0 (fun _ k hk => by simp [hAx k hk]) hfar HOK2.out).mono ?_
 rintro e w6 ⟨B, cc, rfl, h6, hBn, j6, o6, k6, s6⟩
 have H6 := kH h6
 have J6 := kH j6
 have O6 := kH o6
 have K6 := kH k6
 clear h6 j6 o6 k6
 go_wp2
 go_ret2
 refine ⟨gj, B, cc, rfl, H6.out, J6.out, x0B O6.out hsz5, ⟨kT hsz5 s6, fun k hk => ?_⟩, hgs, fun hm => ?_⟩
 ·rw [K6.out k (by simp [hk]) (by have := HX.out k hk; omega)]
  exact HKX.out k hk
 ·have := hBn _ hm
  have := J5.out.lt
  omega
noncomputable def endS (g place m : Nat) : List Sec := [sealRes 4 g place (numB m)]
noncomputable def DM.app (n : Nat) (d : DM) (g used : Nat) (tx : LN) : DM × Nat :=
  if (d.putRow (logAt n + used) (bodyS 3 g used tx)).2 = 0 then (d.putRow (logAt n + used) (bodyS 3 g used tx)).1.putRow (logAt n + (used + pn tx)) (endS g (used + pn tx) (pn tx)) else d.putRow (logAt n + used) (bodyS 3 g used tx)
theorem xKZ {tx : LN} (hok : (d.app n g used tx).2 = 0) (A B : OA) (c b : Nat) : (d.putRows [⟨logAt n + used, A, c, bodyS 3 g used tx⟩, ⟨logAt n + (used + pn tx), B, b, endS g (used + pn tx) (pn tx)⟩]).2 = 0 /\ (d.putRows [⟨logAt n + used, A, c, bodyS 3 g used tx⟩, ⟨logAt n + (used + pn tx), B, b, endS g (used + pn tx) (pn tx)⟩]).1 = (d.app n g used tx).1 := by
 unfold DM.app at *
 by_cases h1 : (d.putRow (logAt n + used) (bodyS 3 g used tx)).2 = 0
 ·rw [if_pos h1] at hok ⊢
  simp [DM.putRows, h1, hok]
 ·rw [if_neg h1] at hok
  exact absurd hok h1
theorem xL2 (g place m : Nat) : sixCells (sealRow 4 g place (fun _ => numB m) 1) 1 = (endS g place m).flatMap Sec.cs := by
 rw [x42]
 simp [endS, sealRow]
theorem x2J {op : Oper} (ty : TypeId) (x : Operand) (ho : op.op = .load ty x) (b o : Nat) (hx : a.eval x = .pointer (some ⟨b, o, none⟩)) (cs : List Value) (d : TypeDesc) (hc : w.rangeAt b o cs)
 (hu : P.underlying ty = some d) (hd : d.isRow = true) (hi : (P.info? ty).map (·.size) = some cs.length) : (execOp a.eval op).run P w = .ok (.value (.agg cs.toArray)) w := by
 unfold execOp
 simp only [ho, hx, Instr.loadAt, Instr.sureAddr, Sem.run_bind, Sem.run_pure, kS, run_loadVar_mid w b o ty cs d hc hu hd hi]
theorem x8G : (prog.info? 35).map (fun i => (i.zero, i.size, i.bytes)) = some (some (.slice none 0 0), 1, 24) := by kernel_rfl
theorem xEX {K : Act -> World -> Prop} (ty : TypeId) (x y : Operand) (ho : o.op = .store ty x y)
 (g i : Nat) (t : TypeId) (cs : Array Value) (v : Value) (hx : a.eval x = .pointer (some ⟨g, i, none⟩)) (hy : a.eval y = v) (hB : Blk w g t cs) (hs : i < cs.size) (hi : (P.info? ty).map (·.size) = some 1) (h1 : v.oneCell' = true)
 (h : ∀ w', Blk w' g t (cs.setIfInBounds i v) -> Only [g] w w' -> w'.heap.size = w.heap.size -> K (a.put o.dst undef) w') : o.wp P a w K Q := by
 unfold Oper.wp execOp
 simp only [ho, hx, hy, Instr.storeAt, Instr.sureAddr, Sem.run_bind, Sem.run_pure, kS, x2H w g i ty v (hB.there (by omega)) hi h1]
 exact h _ (hB.set_ i v) ((kU _ _).setCell (.inl (by simp)) _) (by simp [World.setCell])
theorem Holds.appended {v v' : Value} (h : Holds w0 w g d X) (hg : w.grownBy w' v.ownBlock) (hv : ∀ k, v.ownBlock = some k -> k ∈ X) (hw0 : ∀ k, v.ownBlock = some k -> w0.heap.size <= k) (hat : v'.ownBlock = v.ownBlock ∨ v'.ownBlock = some w.heap.size) (hlt : ∀ k, v'.ownBlock = some k -> k < w'.heap.size) : Holds w0 w' g d (rowOf v' ++ X) := by
 obtain ⟨F, h1, h2, h3⟩ := h
 have hnot : ∀ k ∈ F, v.ownBlock ≠ some k := fun k hk e => (h3 k (hv k e)).1 hk
 refine ⟨F, h1.of (fun k hk => hg.block k (h1.under k hk) (fun e => hnot k hk e.symm)), h2.grown hg h2.size hw0, fun k hk => ?_⟩
 rcases mem_append.1 hk with hk | hk
 ·have hk' := x00.1 hk
  refine ⟨fun hF => ?_, hlt k hk'⟩
  rcases hat with e | e
  ·exact hnot k hF (by rw [<- e]; exact hk')
  ·rw [e] at hk'
   injection hk' with hk'
   have := h1.under k hF
   omega
 ·exact ⟨(h3 k hk).1, kL (h3 k hk).2 hg.size⟩
theorem xNR (h : Holds w0 w g d X) (hJ : Blk w gj 176 (jcells n g gen vs vt used false)) (hgj : gj ∈ X) (hgj0 : w0.heap.size <= gj) (hn : n <= 4096)
 (hgen : gen <= 4611686018427387904) (hused : used <= 4096) (A : OA) (c : Nat) (tx : LN) (hst : Bytes w w.heap.size A tx.length tx) (hl : tx.length <= 20000) (hlc : tx.length <= c) (hcm : c <= 9223372036854775807)
 (hT : Tab w) (hw0 : 0 < w0.heap.size) (hAx : ∀ k ∈ blkOf A, k ∈ X) (hf : Far d (pn tx + 3)) (hok : (d.app n gen used tx).2 = 0)
 (nt : Nat) (us : List Value) (hus : w.ownsRow w0.heap.size 35 1 vt nt us) (hnt : nt <= 100000) (hvt : ∀ k ∈ rowOf vt, k ∈ X) :
    Calls prog 210 #[.pointer (some ⟨gj, 0, none⟩), .slice A tx.length c] w fun e w' => ∃ vt' B cc, e = .returned .nilIface /\ Holds w0 w' g (d.app n gen used tx).1 (blkOf B ++ (rowOf vt' ++ X)) ∧
      Blk w' gj 176 (jcells n g gen vs vt' (used + pn tx + 1) false) /\ w'.ownsRow w0.heap.size 35 1 vt' (nt + 1) (us ++ [.slice B tx.length cc]) /\ Own w' w.heap.size (.slice B tx.length cc) tx.length tx ∧
      (∀ k ∈ X, k ≠ gj -> k ∉ rowOf vt -> w'.heap[k]? = w.heap[k]?) /\ w.heap.size <= w'.heap.size /\ (∀ k ∈ rowOf vt', k ∈ rowOf vt ∨ w.heap.size <= k) := by
  have hpos : 0 < w.heap.size := kL hw0 h.size
  have hXl : ∀ k ∈ X, k < w.heap.size := by obtain ⟨F, h1, h2, h3⟩ := h; exact fun k hk => (h3 k hk).2
  have h256 := hst.2
  have hgl := hXl gj hgj
  have H := kH h
  have HJ := kH hJ
  have HS := kH hst
  have HT := kH hT
  have HX := kH hXl
  have HOK := kH hok
  have HU := kH hus
  have hpn : pn tx <= 189 := by unfold pn; omega
  clear h hJ hst hT hXl hok hus
  go_enter func210, ntmps210
  go_wp2
  have hS0 : Blk w.drew gj 176 (jcells n g gen vs vt used false) /\ Below w.heap.size w w.drew := ⟨HJ.out, (kB _ _).drew⟩
  refine x09 (fun w' => Blk w' gj 176 (jcells n g gen vs vt used false) /\ Below w.heap.size w w') 99 (by kernel_rfl) ?_
  refine tV 0 (.pointer (some ⟨gj, 0, none⟩)) rfl (fun w hw => by kernel_rfl) hS0 ?_
  refine tV 1 (.pointer (some ⟨gj, 0, none⟩)) rfl (fun w hw => by go_simp) hS0 ?_
  refine tV 2 (.pointer (some ⟨gj, 3, none⟩)) rfl (fun w hw => by kernel_rfl) hS0 ?_
  refine tV 3 (.int .i64 gen) rfl (fun w hw => by have q : w.cell? ⟨_, 3, none⟩ = some (.int .i64 gen) := hw.1.cell 3; go_simp) hS0 ?_
  refine tV 4 (.pointer (some ⟨gj, 0, none⟩)) rfl (fun w hw => by kernel_rfl) hS0 ?_
  refine tV 5 (.pointer (some ⟨gj, 0, none⟩)) rfl (fun w hw => by go_simp) hS0 ?_
  refine tV 6 (.pointer (some ⟨gj, 6, none⟩)) rfl (fun w hw => by kernel_rfl) hS0 ?_
  refine tV 7 (.int .i64 used) rfl (fun w hw => by have q : w.cell? ⟨_, 6, none⟩ = some (.int .i64 used) := hw.1.cell 6; go_simp) hS0 ?_
  refine tV 8 (.slice A tx.length c) rfl (fun w hw => by kernel_rfl) hS0 ?_
  refine tO 9 ?_
  refine x03 (by kernel_rfl) (xC1 A c tx w.drew HS.out hl hlc hcm) ?_
  rintro e w1 ⟨v, rs, rfl, hrow, hown, -, b1'⟩
  have b1 := x0L b1'
  obtain ⟨Av, cv, rfl⟩ := x0H hrow
  have hRB : RowsB w1 w1.heap.size Av (pn tx) rs (prow tx) := ⟨kV hrow, fun i hi => by
    obtain ⟨A', c', h1, h2, h3, -⟩ := (hown i hi).form
    refine ⟨A', c', h1, ?_, fun b hb => h256 b (mem_of_mem_drop (mem_of_mem_take hb))⟩
    have := hown i hi
    rw [h1] at this
    exact kV this⟩
  have J1 := HJ.out.below b1 HJ.out.lt
  have hs1 := b1.size
  refine ⟨_, rfl, ⟨J1, b1⟩, ?_⟩
  simp only [nH, pu, nB, nC, nD]
  refine tO 10 ?_
  refine x03 (by kernel_rfl) (x3H 3 gen used Av (pn tx) cv rs (prow tx) w1 (by omega) (by omega) hRB (x0O HT.out b1 hpos) (kL hpos b1.size) (fun i hi => x86 (by simp [isBoxB]; omega) (x1I _ _))) ?_
  rintro e w2 ⟨v, rfl, hrow2, b2⟩
  obtain ⟨As, cs, rfl⟩ := x0H hrow2
  rw [show ((3 : Int)) = ((3 : Nat) : Int) from rfl, xAG] at hrow2
  have B2 := b1.trans (b2.mono b1.size)
  have J2 := J1.below b2 J1.lt
  have hS2 : Blk w2 gj 176 (jcells n g gen vs vt used false) /\ Below w.heap.size w w2 := ⟨J2, B2⟩
  refine ⟨_, rfl, hS2, ?_⟩
  simp only [nH, pu, nB, nC, nD]
  refine tV 11 (.tuple #[.slice As (pn tx) cs, .nilIface]) rfl (fun w hw => by kernel_rfl) hS2 ?_
  refine tV 12 (.slice As (pn tx) cs) rfl (fun w hw => by kernel_rfl) hS2 ?_
  refine tV 13 .nilIface rfl (fun w hw => by kernel_rfl) hS2 ?_
  refine tO 14 ?_
  refine x10 (v := .slice As (pn tx) cs) (by kernel_rfl) ⟨hS2, ?_⟩
  simp only [nH, pu, nB, nC, nD]
  refine tO 15 ?_
  refine x10 (v := .nilIface) (by kernel_rfl) ⟨hS2, ?_⟩
  simp only [nH, pu, nB, nC, nD]
  refine tE ?_
  have J2 := kH J2
  have B2 := kH B2
  have RW2 := kH hrow2
  clear hS2 hS0 hRB hrow hown J1 b1 b1' b2 hrow2
  have q6 : w2.cell? ⟨gj, 6, none⟩ = some (.int .i64 used) := J2.out.cell 6
  go_wp2
  clear q6
  have hS3 : Blk w2.drew gj 176 (jcells n g gen vs vt used false) /\ Below w.heap.size w w2.drew := ⟨J2.out, B2.out.drew⟩
  refine x09 (fun w' => Blk w' gj 176 (jcells n g gen vs vt used false) /\ Below w.heap.size w w') 99 (by kernel_rfl) ?_
  refine tV 0 (.pointer (some ⟨gj, 0, none⟩)) rfl (fun w hw => by kernel_rfl) hS3 ?_
  refine tV 1 (.pointer (some ⟨gj, 0, none⟩)) rfl (fun w hw => by go_simp) hS3 ?_
  refine tV 2 (.pointer (some ⟨gj, 3, none⟩)) rfl (fun w hw => by kernel_rfl) hS3 ?_
  refine tV 3 (.int .i64 gen) rfl (fun w hw => by have q : w.cell? ⟨_, 3, none⟩ = some (.int .i64 gen) := hw.1.cell 3; go_simp) hS3 ?_
  refine tV 4 (.int .i64 ((used : Int) + (pn tx : Int))) rfl (fun w hw => by kernel_rfl) hS3 ?_
  refine tV 5 (.slice As (pn tx) cs) rfl (fun w hw => by kernel_rfl) hS3 ?_
  refine tV 6 (.int .i64 (pn tx)) rfl (fun w hw => by go_simp) hS3 ?_
  refine tO 7 ?_
  refine x03 (by kernel_rfl) (x8V (pn tx) w2.drew) ?_
  rintro e w3 ⟨A3, c3, rfl, hown3, b3'⟩
  have b3 := x0L b3'
  have J3 := J2.out.below b3 J2.out.lt
  have B3 := B2.out.trans (b3.mono B2.out.size)
  have RW3 := x06 RW2.out fun x hx => b3.block x (x02 RW2.out x hx)
  refine ⟨_, rfl, ⟨J3, B3⟩, ?_⟩
  simp only [nH, pu, nB, nC, nD]
  refine tO 8 ?_
  refine x0A (v := .slice (some ⟨w3.heap.size, 0, none⟩) 1 1) (w' := w3.alloc (.cells #[.slice A3 8 c3] 35)) (by go_simp) ?_
  have hRB2 : RowsB (w3.alloc (.cells #[.slice A3 8 c3] 35)) (w3.alloc (.cells #[.slice A3 8 c3] 35)).heap.size (some ⟨w3.heap.size, 0, none⟩) 1 (fun _ => .slice A3 8 c3) (fun _ => numB (pn tx)) := by
    refine ⟨?_, fun i _ => ⟨A3, c3, by rw [x04], ?_, x0Y _⟩⟩
    · have := Reads.new w3 [.slice A3 8 c3] 35 (0, 0)
      simpa using this
    · have := (kV hown3).alloc (kR _) (.cells #[.slice A3 8 c3] 35)
      rw [x04]
      exact this.more (by simp)
  have B4 := B3.alloc B3.size (.cells #[.slice A3 8 c3] 35)
  have RW4 := RW3.alloc (.cells #[.slice A3 8 c3] 35)
  have J4 := J3.alloc (.cells #[.slice A3 8 c3] 35)
  refine ⟨⟨J4, B4⟩, ?_⟩
  generalize hw3s : w3.heap.size = g3 at *
  generalize w3.alloc (.cells #[.slice A3 8 c3] 35) = w4 at *
  clear hw3s
  simp only [nH, pu, nB, nC, nD]
  refine tO 9 ?_
  refine x03 (by kernel_rfl) (x3H 4 gen (used + pn tx) _ 1 1 _ _ w4 (by omega) (by omega) hRB2 (x0O HT.out B4 hpos) (kL hpos B4.size) (fun i hi => x86 (by simp [isBoxB]; omega) (by rw [x04]; omega))) ?_
  rintro e w5 ⟨v, rfl, hrow5, b5⟩
  obtain ⟨At, ct, rfl⟩ := x0H hrow5
  rw [xL2] at hrow5
  have B5 := B4.trans (b5.mono B4.size)
  have RW5 := x06 RW4 fun x hx => b5.block x (x02 RW4 x hx)
  have J5 := J4.below b5 J4.lt
  have hs4 := B4.size
  have hS5 : Blk w5 gj 176 (jcells n g gen vs vt used false) /\ Below w.heap.size w w5 := ⟨J5, B5⟩
  refine ⟨_, rfl, hS5, ?_⟩
  simp only [nH, pu, nB, nC, nD]
  refine tV 10 (.tuple #[.slice At 1 ct, .nilIface]) rfl (fun w hw => by kernel_rfl) hS5 ?_
  refine tV 11 (.slice At 1 ct) rfl (fun w hw => by kernel_rfl) hS5 ?_
  refine tV 12 .nilIface rfl (fun w hw => by kernel_rfl) hS5 ?_
  refine tO 13 ?_
  refine x10 (v := .slice At 1 ct) (by kernel_rfl) ⟨hS5, ?_⟩
  simp only [nH, pu, nB, nC, nD]
  refine tO 14 ?_
  refine x10 (v := .nilIface) (by kernel_rfl) ⟨hS5, ?_⟩
  simp only [nH, pu, nB, nC, nD]
  refine tE ?_
  have J5 := kH J5
  have B5 := kH B5
  have RW5 := kH RW5
  have RT5 := kH hrow5
  clear hS5 hS3 hRB2 hown3 J3 J4 B3 B4 RW3 RW4 RW2 J2 B2 b3 b3' b5 hrow5
  go_wp2
  have hlog : logAt n <= 2800 := by have := x2M hn; unfold logAt; omega
  have hwr1 : IntKind.i64.wrap ((logAt n : Int) + (used : Int)) = (logAt n : Int) + (used : Int) := by rw [kI]; omega
  have hwr2 : IntKind.i64.wrap ((logAt n : Int) + ((used : Int) + (pn tx : Int))) = (logAt n : Int) + ((used : Int) + (pn tx : Int)) := by rw [kI]; omega
  have hzr := x5L
  have hul := underlying173
  have hS6 : Blk w5.drew gj 176 (jcells n g gen vs vt used false) /\ True := ⟨J5.out, trivial⟩
  refine x09 (fun w' => Blk w' gj 176 (jcells n g gen vs vt used false) /\ True) 99 (by kernel_rfl) ?_
  refine tV 0 (.pointer (some ⟨gj, 0, none⟩)) rfl (fun w hw => by kernel_rfl) hS6 ?_
  refine tV 1 (.pointer (some ⟨gj, 0, none⟩)) rfl (fun w hw => by kernel_rfl) hS6 ?_
  refine tV 2 (.pointer (some ⟨gj, 0, none⟩)) rfl (fun w hw => by go_simp) hS6 ?_
  refine tV 3 (.pointer (some ⟨gj, 0, none⟩)) rfl (fun w hw => by kernel_rfl) hS6 ?_
  refine tV 4 (.agg [.int .i64 (areaOf n), .int .i64 (logOf n)].toArray) rfl (fun w hw => x2J 173 (.tmp 53) rfl gj 0 rfl _ _ (x2I hw.1) hul rfl x2O) hS6 ?_
  refine tV 6 (.pointer (some ⟨gj, 0, none⟩)) rfl (fun w hw => by kernel_rfl) hS6 ?_
  refine tV 7 (.pointer (some ⟨gj, 0, none⟩)) rfl (fun w hw => by go_simp) hS6 ?_
  refine tV 8 (.pointer (some ⟨gj, 6, none⟩)) rfl (fun w hw => by kernel_rfl) hS6 ?_
  refine tV 9 (.int .i64 used) rfl (fun w hw => by have q : w.cell? ⟨_, 6, none⟩ = some (.int .i64 used) := hw.1.cell 6; go_simp) hS6 ?_
  refine tV 11 (.slice As (pn tx) cs) rfl (fun w hw => by kernel_rfl) hS6 ?_
  refine tV 13 (.pointer (some ⟨gj, 0, none⟩)) rfl (fun w hw => by kernel_rfl) hS6 ?_
  refine tV 14 (.pointer (some ⟨gj, 0, none⟩)) rfl (fun w hw => by go_simp) hS6 ?_
  refine tV 15 (.pointer (some ⟨gj, 0, none⟩)) rfl (fun w hw => by kernel_rfl) hS6 ?_
  refine tV 16 (.agg [.int .i64 (areaOf n), .int .i64 (logOf n)].toArray) rfl (fun w hw => x2J 173 (.tmp 65) rfl gj 0 rfl _ _ (x2I hw.1) hul rfl x2O) hS6 ?_
  refine tV 18 (.int .i64 ((used : Int) + (pn tx : Int))) rfl (fun w hw => by kernel_rfl) hS6 ?_
  refine tV 20 (.slice At 1 ct) rfl (fun w hw => by kernel_rfl) hS6 ?_
  refine tO 5 ?_
  refine x03 (by kernel_rfl) (x79 n w5.drew hn) ?_
  rintro e w6 ⟨rfl, b6'⟩
  have b6 := x0L b6'
  have hS7 : Blk w6 gj 176 (jcells n g gen vs vt used false) /\ Below w.heap.size w w6 := ⟨J5.out.below b6 J5.out.lt, B5.out.trans (b6.mono B5.out.size)⟩
  have hS7' : Blk w6 gj 176 (jcells n g gen vs vt used false) /\ True := ⟨hS7.1, trivial⟩
  refine ⟨_, rfl, hS7', ?_⟩
  simp only [nH, pu, nB, nC, nD]
  refine tV 10 (.int .i64 ((logAt n : Int) + (used : Int))) rfl (fun w hw => by go_simp) hS7' ?_
  refine tV 12 (.agg #[.int .i64 ((logAt n : Int) + (used : Int)), .slice As (pn tx) cs]) rfl (fun w hw => by have q := hzr w; go_simp) hS7' ?_
  refine tO 17 ?_
  refine x03 (by kernel_rfl) (x79 n w6 hn) ?_
  rintro e w7 ⟨rfl, b7⟩
  have hS8 : Blk w7 gj 176 (jcells n g gen vs vt used false) /\ Below w.heap.size w w7 := ⟨hS7.1.below b7 hS7.1.lt, hS7.2.trans (b7.mono hS7.2.size)⟩
  have hS8' : Blk w7 gj 176 (jcells n g gen vs vt used false) /\ True := ⟨hS8.1, trivial⟩
  refine ⟨_, rfl, hS8', ?_⟩
  simp only [nH, pu, nB, nC, nD]
  refine tV 19 (.int .i64 ((logAt n : Int) + ((used : Int) + (pn tx : Int)))) rfl (fun w hw => by go_simp) hS8' ?_
  refine tV 21 (.agg #[.int .i64 ((logAt n : Int) + ((used : Int) + (pn tx : Int))), .slice At 1 ct]) rfl (fun w hw => by have q := hzr w; go_simp) hS8' ?_
  refine tO 22 ?_
  refine x0A (v := .slice (some ⟨w7.heap.size, 0, none⟩) 2 2) (w' := w7.alloc (.cells #[.int .i64 ((logAt n : Int) + (used : Int)), .slice As (pn tx) cs, .int .i64 ((logAt n : Int) + ((used : Int) + (pn tx : Int))), .slice At 1 ct] 181)) (by have q := hzr w7; go_simp) ?_
  have hcells : (#[.int .i64 ((logAt n : Int) + (used : Int)), .slice As (pn tx) cs, .int .i64 ((logAt n : Int) + ((used : Int) + (pn tx : Int))), .slice At 1 ct] : Array Value) = (([⟨logAt n + used, As, cs, bodyS 3 gen used tx⟩, ⟨logAt n + (used + pn tx), At, ct, endS gen (used + pn tx) (pn tx)⟩] : List RowV).flatMap RowV.cs).toArray := by
    simp [RowV.cs, x0E, endS]
  rw [hcells]
  have b67 := b6.trans (b7.mono b6.size)
  have RW7 := (x06 RW5.out fun x hx => b67.block x (x02 RW5.out x hx)).alloc (.cells (([⟨logAt n + used, As, cs, bodyS 3 gen used tx⟩, ⟨logAt n + (used + pn tx), At, ct, endS gen (used + pn tx) (pn tx)⟩] : List RowV).flatMap RowV.cs).toArray 181)
  have RT7 := (x06 RT5.out fun x hx => b67.block x (x02 RT5.out x hx)).alloc (.cells (([⟨logAt n + used, As, cs, bodyS 3 gen used tx⟩, ⟨logAt n + (used + pn tx), At, ct, endS gen (used + pn tx) (pn tx)⟩] : List RowV).flatMap RowV.cs).toArray 181)
  have J8 := hS8.1.alloc (.cells (([⟨logAt n + used, As, cs, bodyS 3 gen used tx⟩, ⟨logAt n + (used + pn tx), At, ct, endS gen (used + pn tx) (pn tx)⟩] : List RowV).flatMap RowV.cs).toArray 181)
  have B8 := hS8.2.alloc hS8.2.size (.cells (([⟨logAt n + used, As, cs, bodyS 3 gen used tx⟩, ⟨logAt n + (used + pn tx), At, ct, endS gen (used + pn tx) (pn tx)⟩] : List RowV).flatMap RowV.cs).toArray 181)
  have hrr := Reads.newN w7 (([⟨logAt n + used, As, cs, bodyS 3 gen used tx⟩, ⟨logAt n + (used + pn tx), At, ct, endS gen (used + pn tx) (pn tx)⟩] : List RowV).flatMap RowV.cs) 2 2 181 (0, 0) rfl
  refine ⟨⟨J8, trivial⟩, ?_⟩
  have hs7 := hS8.2.size
  have hw78 : (w7.alloc (.cells (([⟨logAt n + used, As, cs, bodyS 3 gen used tx⟩, ⟨logAt n + (used + pn tx), At, ct, endS gen (used + pn tx) (pn tx)⟩] : List RowV).flatMap RowV.cs).toArray 181)).heap.size = w7.heap.size + 1 := by simp
  generalize hwx : w7.alloc (.cells (([⟨logAt n + used, As, cs, bodyS 3 gen used tx⟩, ⟨logAt n + (used + pn tx), At, ct, endS gen (used + pn tx) (pn tx)⟩] : List RowV).flatMap RowV.cs).toArray 181) = wx at *
  generalize hg7 : w7.heap.size = g7 at *
  simp only [nH, pu, nB, nC, nD]
  have hX' : ∀ k ∈ g7 :: (blkOf As ++ blkOf At), w.heap.size <= k /\ k < wx.heap.size := fun k hk => by
    simp only [mem_cons, mem_append] at hk
    rcases hk with rfl | hk | hk
    · omega
    · have := x18 RW7 k hk; omega
    · have := x18 RT7 k hk; omega
  have H7 := H.out.more B8 hX'
  obtain ⟨ho1, ho2⟩ := xKZ HOK.out As At cs ct
  have hfar : Far d (stepsOf ([⟨logAt n + used, As, cs, bodyS 3 gen used tx⟩, ⟨logAt n + (used + pn tx), At, ct, endS gen (used + pn tx) (pn tx)⟩] : List RowV)) := hf.less (by simp [stepsOf, x0E, endS])
  have hrows : ∀ r ∈ ([⟨logAt n + used, As, cs, bodyS 3 gen used tx⟩, ⟨logAt n + (used + pn tx), At, ct, endS gen (used + pn tx) (pn tx)⟩] : List RowV), (∀ k ∈ blkOf r.A, k ∈ g7 :: (blkOf As ++ blkOf At) ++ X) /\ Reads wx wx.heap.size 128 r.A r.ss.length (r.ss.flatMap Sec.cs) /\ r.at_ + r.ss.length <= 1000000 := by
    intro r hr
    simp only [mem_cons, not_mem_nil, or_false] at hr
    rcases hr with rfl | rfl
    · refine ⟨fun k hk => by simp [show k ∈ blkOf As from hk], ?_, ?_⟩
      · show Reads _ _ 128 As (bodyS 3 gen used tx).length _
        rw [x0E]
        exact kV RW7
      · show logAt n + used + (bodyS 3 gen used tx).length <= _
        rw [x0E]; omega
    · refine ⟨fun k hk => by simp [show k ∈ blkOf At from hk], kV RT7, ?_⟩
      show logAt n + (used + pn tx) + 1 <= _
      omega
  refine tO 23 ?_
  refine x03 (by kernel_rfl) (x63 H7 _ J8 rfl (by simp [hgj]) (some ⟨g7, 0, none⟩) 2 ([⟨logAt n + used, As, cs, bodyS 3 gen used tx⟩, ⟨logAt n + (used + pn tx), At, ct, endS gen (used + pn tx) (pn tx)⟩] : List RowV) (fun k hk => by simp [blkOf] at hk; simp [hk]) (hrr.more (by omega)) hrows hfar (by simp) ho1) ?_
  rintro e w8 ⟨rfl, h8, k8⟩
  rw [ho2] at h8
  have h8x := h8.mono (Y := X) (fun k hk => mem_append_right _ hk)
  have hk8 : Keep X wx w8 := Keep.mono k8 (fun k hk => mem_append_right _ hk)
  have J9 := hk8.blk hgj J8
  have hkx : ∀ k ∈ X, w8.heap[k]? = w.heap[k]? := fun k hk => (hk8.2 k hk).trans (B8.block k (HX.out k hk))
  have hsz8 : w.heap.size <= w8.heap.size := kT B8.size hk8.1
  have hS9 : Blk w8 gj 176 (jcells n g gen vs vt used false) /\ True := ⟨J9, trivial⟩
  refine ⟨_, rfl, hS9, ?_⟩
  simp only [nH, pu, nB, nC, nD]
  refine tO 24 ?_
  refine x10 (v := .nilIface) (by kernel_rfl) ⟨hS9, ?_⟩
  simp only [nH, pu, nB, nC, nD]
  refine tE ?_
  have H8 := kH h8x
  have J9 := kH J9
  have HKX := kH hkx
  have HSS := kH (show Bytes w8 w8.heap.size A tx.length tx from ⟨HS.out.1.blk (fun k hk => hkx k (hAx k hk)) hsz8, HS.out.2⟩)
  have HUU := kH (x06 HU.out (w' := w8) (fun k hk => hkx k (hvt k hk)))
  clear hS6 hS7 hS7' hS8 hS8' hS9 h8 h8x k8 hk8 hkx J8 B8 H7 hrows hrr hX' RW7 RT7 hcells b67 b6 b6' b7 J5 B5 RW5 RT5 ho1 ho2 hfar
  go_wp2
  have hS1 : Blk w8.drew gj 176 (jcells n g gen vs vt used false) /\ True := ⟨J9.out, trivial⟩
  refine x09 (fun w' => Blk w' gj 176 (jcells n g gen vs vt used false) /\ True) 11 (by kernel_rfl) ?_
  refine tU 0 (.pointer (some ⟨gj, 0, none⟩)) rfl (fun w hw => by kernel_rfl) hS1 ?_
  refine tU 1 (.pointer (some ⟨gj, 0, none⟩)) rfl (fun w hw => by kernel_rfl) hS1 ?_
  refine tU 2 (.pointer (some ⟨gj, 0, none⟩)) rfl (fun w hw => by go_simp) hS1 ?_
  refine tU 3 (.pointer (some ⟨gj, 5, none⟩)) rfl (fun w hw => by kernel_rfl) hS1 ?_
  refine tU 4 vt rfl (fun w hw => by have q : w.cell? ⟨_, 5, none⟩ = some vt := hw.1.cell 5; go_simp) hS1 ?_
  refine tU 5 (.slice A tx.length c) rfl (fun w hw => by kernel_rfl) hS1 ?_
  refine tO 6 ?_
  refine x03 (by kernel_rfl) (x0Q A tx.length c tx w8.drew _ (by omega) HSS.out) ?_
  rintro e w9 ⟨v, rfl, hown, b9'⟩
  have b9 := x0L b9'
  obtain ⟨B, cc, rfl⟩ := x0H hown
  have J10 := J9.out.below b9 J9.out.lt
  refine ⟨_, rfl, ⟨J10, trivial⟩, ?_⟩
  simp only [nH, pu, nB, nC, nD]
  refine tO 7 ?_
  refine x0A (v := .slice (some ⟨w9.heap.size, 0, none⟩) 1 1) (w' := w9.alloc (.cells #[.slice B tx.length cc] 35)) (by go_simp) ?_
  have J11 := J10.alloc (.cells #[.slice B tx.length cc] 35)
  have hrc := Reads.new w9 [.slice B tx.length cc] 35 (0, 0)
  have hown' := hown.alloc (.cells #[.slice B tx.length cc] 35)
  have hU2 := (x06 HUU.out (w' := w9) (fun k hk => b9.block k (x02 HUU.out k hk))).alloc (.cells #[.slice B tx.length cc] 35)
  have H10 := (H8.out.more b9 (x18 hown)).below ((kB _ _).alloc (kR _) (.cells #[.slice B tx.length cc] 35))
  refine ⟨⟨J11, trivial⟩, ?_⟩
  simp only [nH, pu, nB, nC, nD]
  refine tO 8 ?_
  obtain ⟨iy, hiy0, hiy1, hiy2, hiy3⟩ := info_parts x8G
  refine x1A _ (.tmp 81) (.tmp 84) 42 rfl w0.heap.size 35 iy _ 1 24 underlying42 hiy0 hiy1 hiy2 hiy3 rfl (by omega) vt nt us rfl hU2 _ (some ⟨w9.heap.size, 0, none⟩) 1 1 [.slice B tx.length cc] rfl hrc (fun u hu => by simp at hu; subst hu; rfl) (by simp only [maxLen]; omega) (by omega) (by have := H10.size; exact this) ?_
  intro v2 w11 hU3 hgr hat
  obtain ⟨A2, c2, rfl⟩ := x0H hU3
  have J12 := J11.grown hgr (Ne.symm (x12 hU2 J11 (by decide)))
  have H11 := H10.appended hgr (fun k hk => mem_append_right _ (hvt k (x00.2 hk))) (fun k hk => (kD hU2 k hk).1) hat (fun k hk => (kD hU3 k hk).2)
  have HAT := kH hat
  clear hat
  refine ⟨⟨J12, trivial⟩, ?_⟩
  simp only [nH, pu, nB, nC, nD]
  refine tO 9 ?_
  refine x0A (v := .pointer (some ⟨gj, 0, none⟩)) (w' := w11) (by go_simp) ⟨⟨J12, trivial⟩, ?_⟩
  simp only [nH, pu, nB, nC, nD]
  refine tO 10 ?_
  refine x0A (v := .pointer (some ⟨gj, 5, none⟩)) (w' := w11) (by kernel_rfl) ⟨⟨J12, trivial⟩, ?_⟩
  simp only [nH, pu, nB, nC, nD]
  refine tZ ?_
  refine xEX 42 (.tmp 87) (.tmp 85) (by rfl) gj 5 176 _ (.slice A2 (nt + 1) c2) (by rfl) (by rfl) J12 (by simp [jcells]) (by kernel_rfl) rfl ?_
  intro w12 hJ12 ho12 hs12
  refine NoPanic.normal ?_
  have hJ12' := kH hJ12
  have q6 : w12.cell? ⟨gj, 6, none⟩ = some (.int .i64 used) := (hJ12.cell 6).trans (by simp [jcells])
  have hwr3 : IntKind.i64.wrap ((used : Int) + (pn tx : Int) + 1) = (used : Int) + (pn tx : Int) + 1 := by rw [kI]; omega
  have H11 := kH H11
  have hU3 := kH hU3
  have HG := kH hgr
  have HOW := kH hown'
  have HB9 := kH b9
  have hlt8 := J9.out.lt
  have hlt12 := J12.lt
  have hne : (Value.slice A2 (nt + 1) c2).ownBlock ≠ some gj := x12 hU3.out J12 (by decide)
  have hBb := x18 hown
  have hvtb : ∀ k, vt.ownBlock = some k -> k ∈ rowOf vt := fun k hk => x00.2 hk
  clear hgr hown' b9 b9' J10 J11 J12 hrc hU2 H10 hS1 hiy0 hiy1 hiy2 hiy3 hJ12 q6
  go_wp2_with (first
    | (refine x0I rfl 3 (.tmp 92) (.tmp 90) rfl gj 6 176 _ (.int .i64 ((used : Int) + (pn tx : Int) + 1)) rfl rfl hJ12'.out (by simp [jcells]) (by kernel_rfl) rfl ?_; intro w13 hJ13 ho13 hs13))
  go_ret
  have hon : Only [gj] w11 w13 := ho12.trans ho13 (kF _ _)
  have hdr : w8.drew.heap.size = w8.heap.size := rfl
  have hgA : w9.heap.size + 1 = (w9.alloc (.cells #[.slice B tx.length cc] 35)).heap.size := by simp
  refine ⟨.slice A2 (nt + 1) c2, B, cc, rfl, ?_, ?_, ?_, ?_, ?_, ?_, ?_⟩
  · exact ((H11.out.kept (j := gj) (by simp [hgj]) hon hgj0).mono (fun k hk => by simp only [mem_append] at hk ⊢; rcases hk with hk | hk | hk <;> simp [hk]))
  · have e : ((used + pn tx + 1 : Nat) : Int) = (used : Int) + (pn tx : Int) + 1 := by omega
    unfold jcells
    rw [e]
    simpa [jcells] using hJ13
  · exact x06 hU3.out (fun k hk => hon.block k (x02 hU3.out k hk) (by simp; rintro rfl; exact hne (x00.1 hk)))
  · have hrb : ∀ k ∈ rowOf (Value.slice B tx.length cc), w13.heap[k]? = (w9.alloc (.cells #[.slice B tx.length cc] 35)).heap[k]? := fun k hk => by
      have h1 := x0G HOW.out k hk
      have h2 := x02 HOW.out k hk
      have h3 : k ∉ rowOf vt := fun hm => by have := HX.out k (hvt k hm); omega
      rw [hon.block k (kL h2 HG.out.size) (by simp; omega)]
      exact HG.out.block k h2 (fun e => h3 (x00.2 e.symm))
    exact x0B (x06 HOW.out hrb) hsz8
  · intro k hk hne1 hne2
    have hk1 := HX.out k hk
    have hk8 : k < w8.heap.size := kL hk1 hsz8
    have hk9 : k < w9.heap.size := kL hk8 HB9.out.size
    rw [hon.block k (kL (by omega) HG.out.size) (by simpa using hne1), HG.out.block k (by omega) (fun e => hne2 (x00.2 e.symm)), kG _ _ _ hk9, HB9.out.block k hk8]
    exact HKX.out k hk
  · have h1 := HG.out.size
    have h2 := hon.size
    have h3 := HB9.out.size
    omega
  · intro k hk
    have h1 := HAT.out
    have h2 := x00.1 hk
    have h3 := HB9.out.size
    rcases h1 with e | e
    · exact .inl (x00.2 (e.symm.trans h2))
    · right
      have e2 := e.symm.trans h2
      injection e2 with e2
      omega
section
def pnN (m : Nat) : Nat := (m + 105) / 106
section
variable {w : World} {g gj n gen used : Nat} {vs vt : Value} {stuck : Bool}
theorem x3Y (hJ : Blk w gj 176 (jcells n g gen vs vt used false)) : Calls prog 209 #[.pointer (some ⟨gj, 0, none⟩)] w fun e w' => e = .returned .nilIface /\ w = w' := by
 have q7 : w.cell? ⟨gj, 7, none⟩ = some (.bool false) := hJ.cell 7
 clear hJ
 go_enter func209, ntmps209
 go_wp2
 go_ret
 exact ⟨rfl, rfl⟩
theorem xO3 (hJ : Blk w gj 176 (jcells n g gen vs vt used stuck)) : Calls prog 81 #[.pointer (some ⟨gj, 0, none⟩)] w fun e w' => e = .returned (.int .i64 gen) /\ w = w' := by
 have q3 : w.cell? ⟨gj, 3, none⟩ = some (.int .i64 gen) := hJ.cell 3
 clear hJ
 go_enter func81, ntmps81
 go_wp2
 go_ret
 exact ⟨rfl, rfl⟩
theorem x6U (hJ : Blk w gj 176 (jcells n g gen vs vt used stuck)) (hn : n <= 4096) (hu : used <= logOf n) : Calls prog 156 #[.pointer (some ⟨gj, 0, none⟩)] w fun e w' => e = .returned (.int .i64 (logOf n - used : Nat)) /\ Below w.heap.size w w' := by
 have q1 : w.cell? ⟨gj, 1, none⟩ = some (.int .i64 (logOf n)) := hJ.cell 1
 have q6 : w.cell? ⟨gj, 6, none⟩ = some (.int .i64 used) := hJ.cell 6
 have hl : logOf n <= 4096 := by unfold logOf; omega
 clear hJ
 have hu' : (used : Int) <= (logOf n : Int) := by omega
 go_enter func156, ntmps156
 go_wp2
 go_quiet (fail)
 go_wp2
 go_ret
 exact ⟨x3A (by omega), x1C (kB _ _) _⟩
theorem xHG {st : LN} (hJ : Blk w gj 176 (jcells n g gen (.slice A st.length c) vt used stuck)) (hs : Bytes w w.heap.size A st.length st) (hl : st.length <= 20000) :
  Calls prog 72 #[.pointer (some ⟨gj, 0, none⟩)] w fun e w' => ∃ v, e = .returned v /\ Own w' w.heap.size v st.length st /\ Below w.heap.size w w' := by
 have q4 : w.cell? ⟨gj, 4, none⟩ = some (.slice A st.length c) := hJ.cell 4
 clear hJ
 go_enter func72, ntmps72
 go_wp2_with fail
 refine (x0Q A st.length c st w _ (by omega) hs).mono ?_
 rintro e w1 ⟨v, rfl, hown, hb⟩
 obtain ⟨B, cc, rfl⟩ := x0H hown
 go_wp2
 go_ret
 exact ⟨_, rfl, hown, hb⟩
end
theorem xEW (h : Holds w0 w g d X) (hJ : Blk w gj 176 (jcells n g gen vs vt used false)) (hgj : gj ∈ X) (hgj0 : w0.heap.size <= gj) (hn : n <= 4096)
 (hgen : gen <= 4611686018427387904) (hused : used <= logOf n) (A : OA) (c : Nat) (tx : LN) (hst : Bytes w w.heap.size A tx.length tx) (hl : tx.length <= 20000) (hlc : tx.length <= c) (hcm : c <= 9223372036854775807) (hne : tx ≠ []) (hfit : pn tx + 1 <= logOf n - used)
 (hT : Tab w) (hw0 : 0 < w0.heap.size) (hAx : ∀ k ∈ blkOf A, k ∈ X) (hf : Far d (pn tx + 3)) (hok : (d.app n gen used tx).2 = 0)
 (nt : Nat) (us : List Value) (hus : w.ownsRow w0.heap.size 35 1 vt nt us) (hnt : nt <= 100000) (hvt : ∀ k ∈ rowOf vt, k ∈ X) :
  Calls prog 158 #[.pointer (some ⟨gj, 0, none⟩), .slice A tx.length c] w fun e w' => ∃ vt' B cc, e = .returned .nilIface /\ Holds w0 w' g (d.app n gen used tx).1 (blkOf B ++ (rowOf vt' ++ X)) ∧
   Blk w' gj 176 (jcells n g gen vs vt' (used + pn tx + 1) false) /\ w'.ownsRow w0.heap.size 35 1 vt' (nt + 1) (us ++ [.slice B tx.length cc]) /\ Own w' w.heap.size (.slice B tx.length cc) tx.length tx ∧
   (∀ k ∈ X, k ≠ gj -> k ∉ rowOf vt -> w'.heap[k]? = w.heap[k]?) /\ w.heap.size <= w'.heap.size /\ (∀ k ∈ rowOf vt', k ∈ rowOf vt ∨ w.heap.size <= k) := by
 have hlog : logOf n <= 4096 := by unfold logOf; omega
 have hpos : 0 < tx.length := length_pos_iff.2 hne
 have hd0 : ((tx.length : Int) == 0) = false := by simp; omega
 have hd0' : (tx.length == 0) = false := by simp; omega
 have hnd : needOf tx.length = pn tx + 1 := by unfold needOf; rw [if_neg (by omega)]; rfl
 have hd1 : decide (((logOf n - used : Nat) : Int) < (needOf tx.length : Int)) = false := by simp; omega
 have hd1' : decide (logOf n - used < needOf tx.length) = false := by simp; omega
 have hXl : ∀ k ∈ X, k < w.heap.size := by obtain ⟨F, h1, h2, h3⟩ := h; exact fun k hk => (h3 k hk).2
 have hposw : 0 < w.heap.size := kL hw0 h.size
 have HADD := kH (fun (w1 : World) (b1 : Below w.heap.size w w1) => xNR (h.below b1) (hJ.below b1 hJ.lt) hgj hgj0 hn hgen (by omega) A c tx ((hst.below b1).more b1.size) hl hlc hcm (x0O hT b1 hposw) hw0 hAx hf hok nt us (x06 hus fun x hx => b1.block x (x02 hus x hx)) hnt hvt)
 have HJ := kH hJ
 clear h hJ hst hT hok hus
 go_enter func158, ntmps158
 go_wp2_with fail
 refine (x3Y HJ.out).mono ?_
 rintro e w' ⟨rfl, rfl⟩
 go_wp2_with fail
 refine (x9E tx.length w (by omega)).mono ?_
 rintro e w' ⟨rfl, rfl⟩
 go_wp2_with fail
 refine (x6U HJ.out hn hused).mono ?_
 rintro e w1 ⟨rfl, b1⟩
 go_wp2_with fail
 refine (HADD.out w1 b1).mono ?_
 rintro e w' ⟨vt', B, cc, rfl, r1, r2, r3, r4, r5, r6, r7⟩
 go_wp2
 go_ret
 exact ⟨vt', B, cc, rfl, r1, r2, r3, x0B r4 b1.size, fun k hk h1 h2 => (r5 k hk h1 h2).trans (b1.block k (hXl k hk)), kT b1.size r6, fun k hk => (r7 k hk).imp id (fun h => kT b1.size h)⟩
section
variable {w : World} {g gj n gen used : Nat} {vs vt : Value} {stuck : Bool}
theorem xES (hJ : Blk w gj 176 (jcells n g gen vs vt used false)) (hn : n <= 4096) (hu : used <= logOf n) (A : OA) (m c : Nat) (hm0 : 0 < m) (hm : m <= 1000000) (hfull : logOf n - used < pnN m + 1) : Calls prog 158 #[.pointer (some ⟨gj, 0, none⟩), .slice A m c] w fun e w' => e = .returned (errV 4) /\ Below w.heap.size w w' := by
 have HJ := kH hJ
 clear hJ
 have hd0 : ((m : Int) == 0) = false := by simp; omega
 have hd0' : (m == 0) = false := by simp; omega
 have hnd : needOf m = pnN m + 1 := by unfold needOf; rw [if_neg (by omega)]; rfl
 have hd1 : decide (((logOf n - used : Nat) : Int) < (needOf m : Int)) = true := by simp; omega
 have hd1' : decide (logOf n - used < needOf m) = true := by simp; omega
 go_enter func158, ntmps158
 go_wp2_with fail
 refine (x3Y HJ.out).mono ?_
 rintro e w' ⟨rfl, rfl⟩
 go_wp2_with fail
 refine (x9E m w (by omega)).mono ?_
 rintro e w' ⟨rfl, rfl⟩
 go_wp2_with fail
 refine (x6U HJ.out hn hu).mono ?_
 rintro e w1 ⟨rfl, b1⟩
 go_wp2
 go_ret
 exact ⟨rfl, b1⟩
end
end
theorem xIB (h : Holds w0 w g d X) (i : Int) (hw : d.wait.length <= 1000000) :
  Calls prog 216 #[.pointer (some ⟨g, 0, none⟩), .int .i64 i] w fun e w' => e = .returned (.tuple #[(d.read i).v, errV (d.readErr i)]) /\ Below w.heap.size w w' := by
 obtain ⟨F, ⟨gm, v, rfl, h1⟩, h2, h3⟩ := h
 exact xMZ w _ g gm v d i h1 hw
noncomputable def readRow (d : DM) (a : Nat) (j i : Nat) : Sec := if i < j then d.read ((a : Int) + i) else Sec.zero
theorem xFK (d : DM) (a j : Nat) : (fun i => if i = j then d.read ((a : Int) + j) else readRow d a j i) = readRow d a (j + 1) := by
 funext i
 unfold readRow
 by_cases h : i = j
 ·subst h; simp
 ·rw [if_neg h]
  by_cases h2 : i < j
  ·rw [if_pos h2, if_pos (by omega)]
  ·rw [if_neg h2, if_neg (by omega)]
theorem x7P (h : Holds w0 w g d X) (a m : Nat) (hup : d.gone = false) (ham : a + m <= d.n) (hdn : d.n <= 4096) (hwt : d.wait.length <= 1000000) :
  Calls prog 177 #[.pointer (some ⟨g, 0, none⟩), .int .i64 a, .int .i64 m] w fun e w' => ∃ v, e = .returned (.tuple #[v, .nilIface]) /\ w'.ownsRow w.heap.size 66 128 v m (sixCells (readRow d a m) m) /\ Below w.heap.size w w' := by
 have hm : m <= 4096 := by omega
 have H := kH h
 clear h
 obtain ⟨i0, hi0, hz0, hz1, hz2⟩ := info_parts x8X
 have hmk : ∀ w, (Instr.makeSlice 179 (.int .i64 m) (.int .i64 m)).run prog w = .ok (.slice (some ⟨w.heap.size, 0, none⟩) m m) (w.alloc (.cells ((List.replicate m Sec.zero).flatMap Sec.cs).toArray 66)) := by
  intro w
  have := run_make (P := prog) w 179 66 i0 Sec.zero.v underlying179 hi0 hz0 .i64 .i64 m m (by omega) (by omega) (by rw [hz2]; omega) (by omega)
  rw [hz1] at this
  simp only [kP] at this
  rw [x60] at this
  exact this
 have e0 : (List.replicate m Sec.zero).flatMap Sec.cs = sixCells (readRow d a 0) m := by
  rw [x9D]
  congr 1
  apply ext_getElem?
  intro i
  simp only [List.getElem?_replicate, List.getElem?_map, List.getElem?_range]
  by_cases hi : i < m <;> simp [hi, readRow]
 rw [e0] at hmk
 have hb0 := kH ((kB w.heap.size w).alloc (kR _) (.cells (sixCells (readRow d a 0) m).toArray 66))
 have hrow0 : (w.alloc (.cells (sixCells (readRow d a 0) m).toArray 66)).ownsRow w.heap.size 66 128 (.slice (some ⟨w.heap.size, 0, none⟩) m m) m (sixCells (readRow d a 0) m) :=
  ⟨x1Z _ _, .inr ⟨w.heap.size, m, _, rfl, kR _, kW w _ _, kR _, by simp [maxLen]; omega, by rw [size_toArray, x1Z], take_of_length_le (by rw [toList_toArray, x1Z]; omega)⟩⟩
 have HROW := kH hrow0
 clear e0 hrow0 hi0 hz0 hz1 hz2
 obtain ⟨Zs, hz6, hzl⟩ : ∃ Zs : List Value, (∀ w, (zeroValue 66).run prog w = .ok (.agg Zs.toArray) w) /\ Zs.length = 128 := ⟨_, x0P, Sec.cs_len _⟩
 have hus := underlying66
 have hib : ∀ s : Sec, (prog.info? 66).map (·.size) = some s.cs.length := fun s => by rw [Sec.cs_len]; exact x0X
 go_enter func177, ntmps177
 go_wp2_with fail
 generalize hw1 : w.alloc (.cells (sixCells (readRow d a 0) m).toArray 66) = w1 at *
 go_loopg [16] m (fun gk j wr => ∃ q : Nat, q <= m /\ gk = m - q /\ j = .int .i64 q /\ Below w.heap.size w wr /\ wr.ownsRow w.heap.size 66 128 (.slice (some ⟨w.heap.size, 0, none⟩) m m) m (sixCells (readRow d a q) m))
 case atStart => exact ⟨0, by omega, by omega, rfl, hb0.out, HROW.out⟩
 case round =>
  obtain ⟨q, hq, rfl, rfl, hb, hrow⟩ := hrel
  by_cases hlt : q < m
  ·have HRW := kH hrow
   have HB := kH hb
   have hk1 : (q : Int) < (m : Int) := by omega
   have hre : d.readErr ((a : Int) + (q : Int)) = 0 := by simp [DM.readErr, hup, DM.has]; omega
   clear hrow hb
   go_wp2_with fail
   refine (xIB (H.out.below HB.out) ((a : Int) + (q : Int)) hwt).mono ?_
   rintro e w5 ⟨rfl, b5⟩
   rw [hre]
   simp only [errV, Sec.v]
   have HS := kH (xFK d a q)
   generalize d.read ((a : Int) + (q : Int)) = s at *
   have R5 := kH (x06 HRW.out fun x hx => b5.block x (x02 HRW.out x hx))
   have B5 := kH (HB.out.trans (b5.mono HB.out.size))
   have R6 := kH (R5.out.alloc (.cells s.cs.toArray 66))
   have B6 := kH (B5.out.alloc B5.out.size (.cells s.cs.toArray 66))
   have BX := kH (kW w5 66 s.cs.toArray)
   have hth : (w5.alloc (.cells s.cs.toArray 66)).there w.heap.size (q * 128) s.cs.toArray.size := by
    have h128 : s.cs.toArray.size = 128 := by simp [Sec.cs_len]
    rw [h128]; exact xC6 R6.out hlt
   have hib2 : (prog.info? 66).map (·.size) = some s.cs.toArray.size := by rw [size_toArray]; exact hib s
   have hs5 := B5.out.size
   clear R5 B5 b5 HRW HB
   go_wp2_with (first
    | (refine x07 rfl 66 (.tmp 10) (.tmp 25) rfl w5.heap.size rfl s.cs Zs.toArray rfl rfl (hib s) (by simp [Sec.cs_len, hzl]) s.one ?_)
    | (refine wpList_load_mid rfl 66 (.tmp 10) rfl w5.heap.size 0 rfl s.cs _ BX.out.range hus rfl (hib s) ?_)
    | (refine wpList_store_mid rfl 66 (.tmp 33) (.tmp 32) rfl w.heap.size (q * 128) s.cs.toArray rfl rfl hth hib2 (all_oneCell_toArray s.one) ?_))
   go_roundg (m - (q + 1))
   case measure => omega
   case rel =>
    refine ⟨q + 1, by omega, rfl, by go_num, B6.out.grown (x0F w.heap.size _ _ _).1 B6.out.size (fun x hx => by injection hx with hx; omega), ?_⟩
    rw [<- HS.out]
    exact xGC s R6.out hlt
  ·obtain rfl : q = m := by omega
   go_wp2
   go_ret2
   exact ⟨_, rfl, hrow, hb⟩
def isNum (bs : LN) : Bool := bs.length == 8
theorem xIV (bs : LN) : (if ((⟨bs, false⟩ : RD).take 8).bad || decide (0 < ((⟨bs, false⟩ : RD).take 8).bs.length) then 2 else 0 : Nat) = if isNum bs then 0 else 2 := by
 unfold isNum RD.take RD.fits RD.spoilt
 by_cases h : 8 <= bs.length
 ·by_cases h2 : bs.length = 8
  ·simp [h2]
  ·have h3 : ¬ bs.length <= 8 := by omega
   have h4 : (8 : Int) <= (bs.length : Int) := by omega
   simp [h4, h2]
   omega
 ·have h2 : ¬ bs.length = 8 := by omega
  have h4 : ¬ (8 : Int) <= (bs.length : Int) := by omega
  simp [h4, h2]
theorem xJ6 {bs : LN} (h : isNum bs = true) : (⟨bs, false⟩ : RD).num = numOf bs := by
 have h' : bs.length = 8 := by simpa [isNum] using h
 unfold RD.num RD.got RD.fits
 simp [h']
 rw [take_of_length_le (by omega)]
theorem x9W (A : OA) (c : Nat) (bs : LN) (w : World) (hb : Bytes w w.heap.size A bs.length bs) (hl : bs.length <= 1000) :
  Calls prog 258 #[.slice A bs.length c] w fun e w' => e = .returned (.tuple #[.int .i64 (if isNum bs then numOf bs else 0), .bool (isNum bs)]) /\ Below w.heap.size w w' := by
 have HB := kH hb
 clear hb
 go_enter func258, ntmps258
 go_wp2_with fail
 refine (x9A A bs.length c bs w _ (by omega) HB.out).mono ?_
 rintro e w1 ⟨gr, F, rfl, h1, b1⟩
 have H1 := kH h1
 have B1 := kH b1
 clear h1 b1
 go_wp2_with fail
 refine (x25 w1 _ F _ _ H1.out B1.out.size).mono ?_
 rintro e w2 ⟨rfl, F2, h2, ho, hf⟩
 have H2 := kH h2
 have B2 := kH (B1.out.trans (ho.below H1.out.over B1.out.size))
 clear h2 ho hf
 go_wp2_with fail
 refine (xLN w2 _ F2 _ _ H2.out).mono ?_
 rintro e w' ⟨rfl, rfl⟩
 rw [xIV]
 by_cases hn : isNum bs = true
 ·have e1 := xJ6 hn
  rw [if_pos hn]
  simp only [errV]
  go_wp2
  go_ret2
  exact ⟨rfl, B2.out⟩
 ·rw [if_neg hn]
  have e2 : errV 2 = .iface 46 (.int .i64 2) := rfl
  rw [e2]
  go_wp2
  go_ret2
  exact ⟨rfl, B2.out⟩
noncomputable def topOf (s : Sec) : Option (Int × Int) := if isSealed s.l = true /\ tK s.l = 1 /\ tN s.l = 0 /\ isNum (tD s.l) = true /\ 0 <= numOf (tD s.l) then some (tG s.l, numOf (tD s.l)) else none
def toldV : Option (Int × Int) -> Value
 | some (g, z) => .tuple #[.int .i64 g, .int .i64 z, .bool true]
 | none => .tuple #[.int .i64 0, .int .i64 0, .bool false]
theorem xKO (s : Sec) (w : World) (hT : Tab w) : Calls prog 217 #[s.v] w fun e w' => e = .returned (toldV (topOf s)) /\ Below w.heap.size w w' := by
 unfold Sec.v
 have B0 := kH (kW w 66 s.cs.toArray)
 have hb0 : Below w.heap.size w (w.alloc (.cells s.cs.toArray 66)) := (kB _ _).alloc (kR _) _
 have hus := underlying66
 have hib : (prog.info? 66).map (·.size) = some s.cs.length := by rw [Sec.cs_len]; exact x0X
 have HT := kH hT
 clear hT
 go_enter func217, ntmps217
 go_wp2_with (refine wpList_load_mid rfl 66 (.tmp 1) rfl w.heap.size 0 rfl s.cs _ B0.out.range hus rfl hib ?_)
 have hbz := x23
 cases hs : isSealed s.l with
 | false =>
  have htop : topOf s = none := by unfold topOf; rw [if_neg (by rw [hs]; simp)]
  have HTP := kH htop
  clear htop
  refine (xCW s _ (HT.out.below hb0) hs).mono ?_
  rintro e w1 ⟨rfl, b1⟩
  have e11 : errV 11 = .iface 46 (.int .i64 11) := rfl
  rw [e11]
  have B1 := hb0.trans (b1.mono hb0.size)
  have hone : ∀ u ∈ boxCs 0 0 0 (.slice none 0 0), u.oneCell' = true := x1E 0 0 0 none 0 0
  have hib2 : (prog.info? 280).map (·.size) = some (boxCs 0 0 0 (.slice none 0 0)).length := x0U
  clear hs b1
  go_wp2_with (refine x07 rfl 280 (.tmp 5) (.tmp 10) rfl w1.heap.size rfl (boxCs 0 0 0 (.slice none 0 0)) _ rfl rfl hib2 rfl hone ?_)
  go_ret3
  exact ⟨by rw [HTP.out]; rfl, B1.alloc B1.size _⟩
 | true =>
  refine (x3K s _ (HT.out.below hb0) hs).mono ?_
  rintro e w1 ⟨A, c, rfl, hown, b1⟩
  have HS := kH hs
  have B1 := kH (hb0.trans (b1.mono hb0.size))
  have hone : ∀ u ∈ boxCs (tK s.l) (tG s.l) (tN s.l) (.slice A (tD s.l).length c), u.oneCell' = true := x1E _ _ _ A _ c
  have hib2 : (prog.info? 280).map (·.size) = some (boxCs (tK s.l) (tG s.l) (tN s.l) (.slice A (tD s.l).length c)).length := x0U
  have BX := kW w1 280 (boxCs (tK s.l) (tG s.l) (tN s.l) (.slice A (tD s.l).length c)).toArray
  have HBY := kH ((hown.bytes (x2Q s.l s.lt)).since (x0D w1 (.cells (boxCs (tK s.l) (tG s.l) (tN s.l) (.slice A (tD s.l).length c)).toArray 280)))
  have BXH := kH BX
  have BW := kH (B1.out.alloc B1.out.size (.cells (boxCs (tK s.l) (tG s.l) (tN s.l) (.slice A (tD s.l).length c)).toArray 280))
  have htl := x5C s.l
  have hq := fun (i : Nat) => BX.cell i
  have q0 : (w1.alloc (.cells (boxCs (tK s.l) (tG s.l) (tN s.l) (.slice A (tD s.l).length c)).toArray 280)).cell? ⟨w1.heap.size, 0, none⟩ = some (.int .i64 (tK s.l)) := hq 0
  have q1 : (w1.alloc (.cells (boxCs (tK s.l) (tG s.l) (tN s.l) (.slice A (tD s.l).length c)).toArray 280)).cell? ⟨w1.heap.size, 1, none⟩ = some (.int .i64 (tG s.l)) := hq 1
  have q2 : (w1.alloc (.cells (boxCs (tK s.l) (tG s.l) (tN s.l) (.slice A (tD s.l).length c)).toArray 280)).cell? ⟨w1.heap.size, 2, none⟩ = some (.int .i64 (tN s.l)) := hq 2
  have q3 : (w1.alloc (.cells (boxCs (tK s.l) (tG s.l) (tN s.l) (.slice A (tD s.l).length c)).toArray 280)).cell? ⟨w1.heap.size, 3, none⟩ = some (.slice A (tD s.l).length c) := hq 3
  clear hs hown b1 BX hq
  generalize hgb : w1.heap.size = gb at *
  by_cases hk : tK s.l = 1
  ·have hk1 : (tK s.l != 1) = false := by simp [hk]
   have HKK := kH hk
   clear hk
   by_cases hn : tN s.l = 0
   ·have hn1 : (tN s.l != 0) = false := by simp [hn]
    have HNN := kH hn
    clear hn
    go_wp2_with (refine x07 rfl 280 (.tmp 5) (.tmp 10) rfl gb hgb (boxCs (tK s.l) (tG s.l) (tN s.l) (.slice A (tD s.l).length c)) _ rfl rfl hib2 rfl hone ?_)
    refine (x9W A c (tD s.l) _ (HBY.out.more (by rw [kJ, hgb]; omega)) (by omega)).mono ?_
    rintro e w2 ⟨rfl, b2⟩
    have q1 : w2.cell? ⟨gb, 1, none⟩ = some (.int .i64 (tG s.l)) := (BXH.out.below b2 BXH.out.lt).cell 1
    have B2 := kH (BW.out.trans (b2.mono BW.out.size))
    clear b2
    by_cases hnum : isNum (tD s.l) = true
    ·rw [if_pos hnum, hnum]
     by_cases hpos : 0 <= numOf (tD s.l)
     ·have htop : topOf s = some (tG s.l, numOf (tD s.l)) := by unfold topOf; rw [if_pos ⟨HS.out, HKK.out, HNN.out, hnum, hpos⟩]
      have hd : decide (numOf (tD s.l) < 0) = false := by simp; omega
      have HTP := kH htop
      clear htop
      go_wp2
      go_ret3
      exact ⟨by rw [HTP.out]; rfl, B2.out⟩
     ·have htop : topOf s = none := by unfold topOf; rw [if_neg (fun h => hpos h.2.2.2.2)]
      have hd : decide (numOf (tD s.l) < 0) = true := by simp; omega
      have HTP := kH htop
      clear htop
      go_wp2
      go_ret3
      exact ⟨by rw [HTP.out]; rfl, B2.out⟩
    ·have htop : topOf s = none := by unfold topOf; rw [if_neg (fun h => hnum h.2.2.2.1)]
     have hf : isNum (tD s.l) = false := by simpa using hnum
     rw [if_neg hnum, hf]
     have HTP := kH htop
     clear htop
     go_wp2
     go_ret3
     exact ⟨by rw [HTP.out]; rfl, B2.out⟩
   ·have htop : topOf s = none := by unfold topOf; rw [if_neg (fun h => hn h.2.2.1)]
    have hn1 : (tN s.l != 0) = true := by simpa using hn
    have HTP := kH htop
    clear htop
    go_wp2_with (refine x07 rfl 280 (.tmp 5) (.tmp 10) rfl gb hgb (boxCs (tK s.l) (tG s.l) (tN s.l) (.slice A (tD s.l).length c)) _ rfl rfl hib2 rfl hone ?_)
    go_ret3
    exact ⟨by rw [HTP.out]; rfl, BW.out⟩
  ·have htop : topOf s = none := by unfold topOf; rw [if_neg (fun h => hk h.2.1)]
   have hk1 : (tK s.l != 1) = true := by simpa using hk
   have HTP := kH htop
   clear htop hk
   go_wp2_with (refine x07 rfl 280 (.tmp 5) (.tmp 10) rfl gb hgb (boxCs (tK s.l) (tG s.l) (tN s.l) (.slice A (tD s.l).length c)) _ rfl rfl hib2 rfl hone ?_)
   go_ret3
   exact ⟨by rw [HTP.out]; rfl, BW.out⟩
noncomputable def endOf (s : Sec) (g p m : Int) : Bool := isOf s.l 4 g p && (isNum (tD s.l) && (numOf (tD s.l) == m))
theorem xMG (s : Sec) (g p m : Int) (w : World) (hT : Tab w) : Calls prog 219 #[s.v, .int .i64 g, .int .i64 p, .int .i64 m] w fun e w' => e = .returned (.bool (endOf s g p m)) /\ Below w.heap.size w w' := by
 unfold Sec.v
 have B0 := kH (kW w 66 s.cs.toArray)
 have hb0 : Below w.heap.size w (w.alloc (.cells s.cs.toArray 66)) := (kB _ _).alloc (kR _) _
 have hus := underlying66
 have hib : (prog.info? 66).map (·.size) = some s.cs.length := by rw [Sec.cs_len]; exact x0X
 have htl := x5C s.l
 have HT := kH hT
 clear hT
 go_enter func219, ntmps219
 go_wp2_with (refine wpList_load_mid rfl 66 (.tmp 4) rfl w.heap.size 0 rfl s.cs _ B0.out.range hus rfl hib ?_)
 cases hi : isOf s.l 4 g p with
 | false =>
  have htop : endOf s g p m = false := by unfold endOf; rw [hi]; rfl
  have HTP := kH htop
  clear htop
  refine (xO6 s 4 g p _ (HT.out.below hb0) hi).mono ?_
  rintro e w1 ⟨rfl, b1⟩
  have B1 := hb0.trans (b1.mono hb0.size)
  clear b1
  go_wp2
  go_ret
  exact ⟨by rw [HTP.out]; rfl, B1⟩
 | true =>
  refine (xCX s 4 g p _ (HT.out.below hb0) hi).mono ?_
  rintro e w1 ⟨A, c, rfl, hown, b1⟩
  have HY := kH (hown.bytes (x2Q s.l s.lt))
  have B1 := kH (hb0.trans (b1.mono hb0.size))
  have HI := kH hi
  clear hown b1 hi
  go_wp2_with fail
  refine (x9W A c (tD s.l) w1 HY.out (by omega)).mono ?_
  rintro e w2 ⟨rfl, b2⟩
  have B2 := kH (B1.out.trans (b2.mono B1.out.size))
  clear b2
  cases hn : isNum (tD s.l) with
  | false =>
   have htop : endOf s g p m = false := by unfold endOf; rw [hn]; simp
   have HTP := kH htop
   clear htop
   simp only [Bool.false_eq_true, if_false]
   clear hn
   go_wp2
   go_ret
   exact ⟨by rw [HTP.out]; rfl, B2.out⟩
  | true =>
   have htop : endOf s g p m = (numOf (tD s.l) == m) := by unfold endOf; rw [hn, HI.out]; simp
   have HTP := kH htop
   clear htop
   simp only [if_true]
   clear hn
   go_wp2
   go_ret
   exact ⟨by rw [HTP.out]; rfl, B2.out⟩
noncomputable def pickTop (acc : Option (Int × Int)) (i : Nat) (s : Sec) : Option (Int × Int) := match topOf s with
 | some (g, z) => if g % 2 = i /\ (∀ x, acc = some x -> x.1 < g) then some (g, z) else acc
 | none => acc
noncomputable def newestL (ss : List Sec) : Nat -> Option (Int × Int)
 | 0 => none
 | k + 1 => pickTop (newestL ss k) k (ss[k]?.getD Sec.zero)
theorem xJ1 {s : Sec} {g z : Int} (h : topOf s = some (g, z)) : 0 <= g := by
 unfold topOf at h
 split at h
 ·rename_i hh
  have h1 : isBoxB (tK s.l) (tG s.l) (tN s.l) = true := by
   have := hh.1
   unfold isSealed at this
   simp only [Bool.and_eq_true] at this
   exact this.1
  injection h with h
  injection h with h2 h3
  rw [<- h2]
  unfold isBoxB at h1
  have := of_decide_eq_true h1
  exact this.2.2.1
 ·cases h
def accG : Option (Int × Int) -> Int
 | some (g, _) => g
 | none => 0
def accZ : Option (Int × Int) -> Int
 | some (_, z) => z
 | none => 0
theorem xMK (o : Option (Int × Int)) : toldV o = .tuple #[.int .i64 (accG o), .int .i64 (accZ o), .bool o.isSome] := by
  rcases o with _ | ⟨g, z⟩ <;> rfl
theorem xHO (A : OA) (c : Nat) (ss : List Sec) (w : World) (hR : Reads w w.heap.size 128 A ss.length (ss.flatMap Sec.cs)) (hl : ss.length <= 100) (hT : Tab w) (hpos : 0 < w.heap.size) :
  Calls prog 178 #[.slice A ss.length c] w fun e w' => e = .returned (toldV (newestL ss ss.length)) /\ Below w.heap.size w w' := by
 obtain ⟨Zs, hz6, hzl⟩ : ∃ Zs : List Value, (∀ w, (zeroValue 66).run prog w = .ok (.agg Zs.toArray) w) /\ Zs.length = 128 := ⟨_, x0P, Sec.cs_len _⟩
 have hus := underlying66
 have hib : ∀ s : Sec, (prog.info? 66).map (·.size) = some s.cs.length := fun s => by rw [Sec.cs_len]; exact x0X
 have HR := kH hR
 have HT := kH hT
 clear hR hT
 go_enter func178, ntmps178
 go_wp2
 go_loopg [2, 3, 4, 12] ss.length (fun gk a b o j wr => ∃ (k : Nat), k <= ss.length /\ gk = ss.length - k /\ a = .int .i64 (accG (newestL ss k)) /\ b = .int .i64 (accZ (newestL ss k)) /\ o = .bool (newestL ss k).isSome /\ j = .int .i64 k /\ Below w.heap.size w wr)
 case atStart => exact ⟨0, by omega, by omega, rfl, rfl, rfl, rfl, kB _ _⟩
 case round =>
  obtain ⟨k, hk, rfl, rfl, rfl, rfl, rfl, hb⟩ := hrel
  by_cases hlt : k < ss.length
  ·obtain ⟨ad, s, rfl, hadb, hs, hc⟩ := x4T (HR.out.below hb) hlt
   have hnx : newestL ss (k + 1) = pickTop (newestL ss k) k s := by show pickTop (newestL ss k) k (ss[k]?.getD Sec.zero) = _; rw [hs]; rfl
   have BX := kH (kW wr 66 s.cs.toArray)
   have BW := kH (hb.alloc hb.size (.cells s.cs.toArray 66))
   have HNX := kH hnx
   clear hb hs hnx
   generalize newestL ss k = acc at *
   go_wp2_with (first
    | (refine x20 rfl 66 (.tmp 15) rfl _ rfl s.cs _ hc hus rfl (hib s) ?_)
    | (refine x07 rfl 66 (.tmp 6) (.tmp 16) rfl wr.heap.size rfl s.cs Zs.toArray rfl rfl (hib s) (by simp [Sec.cs_len, hzl]) s.one ?_)
    | (refine wpList_load_mid rfl 66 (.tmp 6) rfl wr.heap.size 0 rfl s.cs _ BX.out.range hus rfl (hib s) ?_))
   refine (xKO s _ (x0O HT.out BW.out hpos)).mono ?_
   rintro e w5 ⟨rfl, b5⟩
   have B5 := kH (BW.out.trans (b5.mono BW.out.size))
   clear b5 hc
   cases ht : topOf s with
   | none =>
    have hp : pickTop acc k s = acc := by unfold pickTop; rw [ht]
    have HP := kH (HNX.out.trans hp)
    simp only [toldV]
    clear hp ht
    go_wp2
    go_roundg (ss.length - (k + 1))
    case measure => omega
    case rel => exact ⟨k + 1, by omega, rfl, by rw [HP.out], by rw [HP.out], by rw [HP.out], by go_num, B5.out⟩
   | some x =>
    obtain ⟨g, z⟩ := x
    have hg0 := xJ1 ht
    obtain ⟨gn, rfl⟩ := Int.eq_ofNat_of_zero_le hg0
    simp only [toldV]
    by_cases hm : gn % 2 = k
    ·have hme : (((gn % 2 : Nat) : Int) == (k : Int)) = true := by simp; omega
     have hme2 : (gn % 2 == k) = true := by simpa using hm
     have hme3 : ((gn : Int) % 2 == (k : Int)) = true := by simp; omega
     rcases acc with _ | ⟨g0, z0⟩
     ·have hp : pickTop none k s = some ((gn : Int), z) := by unfold pickTop; rw [ht]; simp; omega
      have HP := kH (HNX.out.trans hp)
      clear hp ht hm
      simp only [accG, accZ, Option.isSome]
      go_wp2_with (go_at_call 149; refine (x3J gn _).mono ?_; rintro e w' ⟨rfl, rfl⟩)
      go_roundg (ss.length - (k + 1))
      case measure => omega
      case rel => exact ⟨k + 1, by omega, rfl, by rw [HP.out]; rfl, by rw [HP.out]; rfl, by rw [HP.out]; rfl, by go_num, B5.out⟩
     ·by_cases hlt2 : g0 < (gn : Int)
      ·have hp : pickTop (some (g0, z0)) k s = some ((gn : Int), z) := by unfold pickTop; rw [ht]; simp [hlt2]; omega
       have hd : decide (g0 < (gn : Int)) = true := by simpa using hlt2
       have HP := kH (HNX.out.trans hp)
       clear hp ht hm hlt2
       simp only [accG, accZ, Option.isSome]
       go_wp2_with (go_at_call 149; refine (x3J gn _).mono ?_; rintro e w' ⟨rfl, rfl⟩)
       go_roundg (ss.length - (k + 1))
       case measure => omega
       case rel => exact ⟨k + 1, by omega, rfl, by rw [HP.out]; rfl, by rw [HP.out]; rfl, by rw [HP.out]; rfl, by go_num, B5.out⟩
      ·have hp : pickTop (some (g0, z0)) k s = some (g0, z0) := by unfold pickTop; rw [ht]; simp [hlt2]
       have hd : decide (g0 < (gn : Int)) = false := by simpa using hlt2
       have HP := kH (HNX.out.trans hp)
       clear hp ht hm hlt2
       simp only [accG, accZ, Option.isSome]
       go_wp2_with (go_at_call 149; refine (x3J gn _).mono ?_; rintro e w' ⟨rfl, rfl⟩)
       go_roundg (ss.length - (k + 1))
       case measure => omega
       case rel => exact ⟨k + 1, by omega, rfl, by rw [HP.out]; rfl, by rw [HP.out]; rfl, by rw [HP.out]; rfl, by go_num, B5.out⟩
    ·have hme : (((gn % 2 : Nat) : Int) == (k : Int)) = false := by simp; omega
     have hme2 : (gn % 2 == k) = false := by simpa using hm
     have hme3 : ((gn : Int) % 2 == (k : Int)) = false := by simp; omega
     have hp : pickTop acc k s = acc := by
      unfold pickTop
      rw [ht]
      simp only
      rw [if_neg (fun h => hm (by have := h.1; omega))]
     have HP := kH (HNX.out.trans hp)
     clear hp ht hm
     go_wp2_with (go_at_call 149; refine (x3J gn _).mono ?_; rintro e w' ⟨rfl, rfl⟩)
     go_roundg (ss.length - (k + 1))
     case measure => omega
     case rel => exact ⟨k + 1, by omega, rfl, by rw [HP.out], by rw [HP.out], by rw [HP.out], by go_num, B5.out⟩
  ·obtain rfl : k = ss.length := by omega
   go_wp2
   go_ret3
   exact ⟨by rw [xMK]; rfl, hb⟩
theorem xBF (st : LN) (k : Nat) : st.take (106 * (k + 1)) = st.take (106 * k) ++ prow st k := by
 unfold prow
 rw [show 106 * (k + 1) = 106 * k + 106 by omega, List.take_add]
theorem xFT (A : OA) (c : Nat) (ss : List Sec) (gen : Int) (st : LN) (w : World) (hR : Reads w w.heap.size 128 A ss.length (ss.flatMap Sec.cs)) (hl : ss.length <= 4096) (hT : Tab w) (hpos : 0 < w.heap.size) (hst : st.length <= 100000) (hfit : pn st <= ss.length)
 (hin : ∀ k s, k < pn st -> ss[k]? = some s -> isOf s.l 2 gen k = true /\ tD s.l = prow st k) :
  Calls prog 179 #[.slice A ss.length c, .int .i64 gen, .int .i64 st.length] w fun e w' => ∃ v, e = .returned (.tuple #[v, .bool true]) /\ Own w' w.heap.size v st.length st /\ Below w.heap.size w w' := by
 have hpf : decide ((ss.length : Int) < (partsOf st.length : Int)) = false := by have : partsOf st.length = pn st := rfl; simp; omega
 have hpf2 : decide (ss.length < partsOf st.length) = false := by have : partsOf st.length = pn st := rfl; simp; omega
 have hpe : partsOf st.length = pn st := rfl
 have HR := kH hR
 have HT := kH hT
 have HIN := kH hin
 clear hR hT hin
 go_enter func179, ntmps179
 go_wp2_with fail
 refine (x2K st.length w (by omega)).mono ?_
 rintro e w' ⟨rfl, rfl⟩
 go_wp2_with fail
 refine (x2K st.length w (by omega)).mono ?_
 rintro e w' ⟨rfl, rfl⟩
 rw [hpe]
 clear hpf hpf2 hpe
 go_wp2
 go_loopg [8, 19] (pn st) (fun gk v j wr => ∃ (k : Nat) (u : Value), k <= pn st /\ gk = pn st - k /\ u = v /\ j = .int .i64 k /\ Below w.heap.size w wr /\ Own wr w.heap.size u (st.take (106 * k)).length (st.take (106 * k)))
 case atStart => exact ⟨0, _, by omega, by omega, rfl, rfl, kB _ _, by simpa using Own.nil w w.heap.size⟩
 case round =>
  obtain ⟨k, u, hk, rfl, rfl, rfl, hb, hown⟩ := hrel
  by_cases hlt : k < pn st
  ·obtain ⟨ad, s, rfl, hadb, hs, hc⟩ := x4T (HR.out.below hb) (show k < ss.length by omega)
   obtain ⟨his, htd⟩ := HIN.out k s hlt hs
   obtain ⟨Au, cu, rfl⟩ := x0H hown
   have hib : (prog.info? 66).map (·.size) = some s.cs.length := by rw [Sec.cs_len]; exact x0X
   have hus := underlying66
   have hk1 : (k : Int) < (ss.length : Int) := by omega
   have HO := kH hown
   have HB := kH hb
   have hpn : 106 * k < st.length /\ st.length <= 100000 := by have : pn st = (st.length + 105) / 106 := rfl; omega
   have htl : (st.take (106 * k)).length = 106 * k := by rw [length_take]; omega
   have hpl : (prow st k).length = min 106 (st.length - 106 * k) := x99 st k
   have htk := xBF st k
   have HTK := kH htk
   clear hs hown hb htk
   go_wp2_with (refine x20 rfl 66 (.tmp 25) rfl _ rfl s.cs _ hc hus rfl hib ?_)
   refine (xCX s 2 gen k wr (x0O HT.out HB.out hpos) his).mono ?_
   rintro e w5 ⟨A5, c5, rfl, ho5, b5⟩
   rw [htd] at ho5 ⊢
   have HTD := kH htd
   have O5 := kH ho5
   have HO5 := kH (x06 HO.out (w' := w5) (fun x hx => b5.block x (x02 HO.out x hx)))
   have HB5 := kH (HB.out.trans (b5.mono HB.out.size))
   have hs5 := b5.size
   clear ho5 b5 his hc htd
   have O6 := HO5.out
   rw [htl] at O6
   have HO6 := kH O6
   have BY := kH (O5.out.bytes (fun b hb => by rw [<- HTD.out] at hb; exact x2Q s.l s.lt b hb))
   clear O6
   have HTL := kH htl
   have HPL := kH hpl
   clear hpl htl
   generalize hplg : (prow st k).length = pl at *
   have hpl := HPL.out
   by_cases hm : st.length - 106 * k < 106
   ·have hne : ((pl : Int) != (st.length : Int) - 106 * (k : Int)) = false := by simp; omega
    have hc1 : ¬ (106 : Int) <= (st.length : Int) - (106 * (k : Int)) := by omega
    have hplb : pl <= 106 := by omega
    clear hpl
    go_wp2_with (at_builtin; refine x2X (.tmp 44) (.tmp 45) rfl rfl w.heap.size (.slice Au (106 * k) cu) (106 * k) (st.take (106 * k)) rfl HO6.out w5.heap.size A5 pl c5 (prow st k) rfl BY.out (by omega) HB5.out.size ?_; intro v6 w6 h6 hg6 ha6)
    go_roundg (pn st - (k + 1))
    case measure => omega
    case rel =>
     refine ⟨k + 1, v6, by omega, rfl, rfl, by go_num, HB5.out.grown hg6 HB5.out.size (fun x hx => (kD HO6.out x hx).1), ?_⟩
     rw [HTK.out, kN, HTL.out, hplg]
     exact h6
   ·have hne : ((pl : Int) != 106) = false := by simp; omega
    have hc1 : (106 : Int) <= (st.length : Int) - (106 * (k : Int)) := by omega
    have hplb : pl <= 106 := by omega
    clear hpl
    go_wp2_with (at_builtin; refine x2X (.tmp 44) (.tmp 45) rfl rfl w.heap.size (.slice Au (106 * k) cu) (106 * k) (st.take (106 * k)) rfl HO6.out w5.heap.size A5 pl c5 (prow st k) rfl BY.out (by omega) HB5.out.size ?_; intro v6 w6 h6 hg6 ha6)
    go_roundg (pn st - (k + 1))
    case measure => omega
    case rel =>
     refine ⟨k + 1, v6, by omega, rfl, rfl, by go_num, HB5.out.grown hg6 HB5.out.size (fun x hx => (kD HO6.out x hx).1), ?_⟩
     rw [HTK.out, kN, HTL.out, hplg]
     exact h6
  ·obtain rfl : k = pn st := by omega
   have htl : st.take (106 * pn st) = st := take_of_length_le (by unfold pn; omega)
   rw [htl] at hown
   obtain ⟨Au, cu, rfl⟩ := x0H hown
   go_wp2
   go_ret2
   exact ⟨_, rfl, hown, hb⟩
end Go.Proofs.YtpogpajjemaagaaGreatDoor
