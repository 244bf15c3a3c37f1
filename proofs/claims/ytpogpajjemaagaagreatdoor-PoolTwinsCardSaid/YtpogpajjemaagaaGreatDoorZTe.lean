/- Texts of the walk, joined. -/
import Derived.Test.YtpogpajjemaagaaGreatDoorZTd
import Derived.Laws.Bits64b
import Derived.StillTailTactics
import Derived.Lib.SliceRun
import Derived.WideKeyElems
import Derived.Laws.IdiomMaps
import Derived.Maps.Keyed
import Derived.StringKeys
import Derived.Lib.AppendZerosOnto
import Derived.Deep.CutRange
namespace Go.Proofs.YtpogpajjemaagaaGreatDoor
set_option linter.unusedSimpArgs false
set_option linter.unusedVariables false
set_option maxRecDepth 100000
open Go.Proofs.Tryz
set_option maxHeartbeats 16000000
open Go.RowKit Go.BigFrame
open List (append_assoc append_nil countP_replicate drop_append drop_drop drop_eq_getElem_cons drop_left' drop_of_length_le drop_replicate drop_succ_cons drop_zero eq_nil_of_length_eq_zero eq_of_mem_replicate ext_getElem? filter_eq_self find?_cons flatMap_append getD_eq_getElem?_getD length_cons length_drop length_map length_pos_of_mem length_replicate length_singleton length_take map_append map_cons map_drop map_take mem_append mem_cons_self mem_iff_getElem mem_of_getElem? mem_of_mem_drop nil_append size_toArray sum_cons take_add_one take_append_drop take_left take_left' take_length take_of_length_le take_succ_cons take_take take_zero toList_toArray)
variable {fl : List Bool} {w w' wr wx : World} {B base c g hb i i0 j k m n q r : Nat} {A D : OA} {t : TypeId} {bs : LN}
def InI (e : Int × Int) : Prop := (-9223372036854775808 <= e.1 /\ e.1 <= 9223372036854775807) /\ -9223372036854775808 <= e.2 /\ e.2 <= 9223372036854775807
def AllE (fl : List Bool) (e : Int × Int) (b : Bool) : Prop := ∃ x y : Nat, e = ((x : Int), (y : Int)) /\ 1 <= y /\ AllR fl x y b
def Told (w : World) (P : Prop) (e : Ending) (w' : World) : Prop := ∃ r : Bool, e = .returned (.bool r) /\ Below w.heap.size w w' /\ (r = true ↔ P)
theorem x6A {x y : Nat} (h : x + y <= fl.length) (b : Bool) : (∀ z ∈ (fl.drop x).take y, z = b) ↔ AllR fl x y b := by
 refine ⟨fun hz => ⟨h, fun j hj hk => ?_⟩, fun ha z hz => ?_⟩
 ·have hjl : j < fl.length := by omega
  rw [List.getElem?_eq_getElem hjl, Option.some.injEq]
  refine hz _ ?_
  have : ((fl.drop x).take y)[j - x]? = some fl[j] := by
   rw [List.getElem?_take, if_pos (by omega), List.getElem?_drop, show x + (j - x) = j by omega, List.getElem?_eq_getElem hjl]
  exact mem_of_getElem? this
 ·obtain ⟨k, hk, rfl⟩ := mem_iff_getElem.1 hz
  have hkl : k < y := by simp at hk; omega
  have h1 := ha.2 (x + k) (by omega) (by omega)
  have : ((fl.drop x).take y)[k]? = some (((fl.drop x).take y)[k]) := List.getElem?_eq_getElem hk
  rw [List.getElem?_take, if_pos hkl, List.getElem?_drop, h1] at this
  injection this with this
  exact this.symm
theorem xLE {left : Int} (e : Int × Int) (b : Bool) (hi : InI e) (h : SAt w g r A c fl left) :
  Calls prog 249 #[.pointer (some ⟨g, 0, none⟩), .agg #[.int .i64 e.1, .int .i64 e.2], .bool b] w (Told w (AllE fl e b)) := by
 obtain ⟨x, y⟩ := e
 have hlim := h.lim
 by_cases hno : y < 1 ∨ x < 0 ∨ (fl.length : Int) < x + y
 ·refine (xNU fl x y b hi.1.1 hi.1.2 hi.2.1 hi.2.2 (by omega) h.blk hno).mono ?_
  rintro e w' ⟨rfl, hb⟩
  refine ⟨false, rfl, hb, by simp, fun ⟨nx, ny, he, h1, h2⟩ => ?_⟩
  injection he with e1 e2
  have := h2.1
  omega
 ·obtain ⟨nx, rfl⟩ : ∃ n : Nat, x = n := ⟨x.toNat, by omega⟩
  obtain ⟨ny, rfl⟩ : ∃ n : Nat, y = n := ⟨y.toNat, by omega⟩
  have hpos : fl ≠ [] := fun e => by subst e; simp at hno; omega
  have hrl : r + 1 <= w.heap.size := by
   rcases h.row with e | ⟨_, cs, hb, _⟩
   ·exact absurd e hpos
   ·exact hb.lt
  refine (xOE fl nx ny b (by omega) (by omega) h.cap (by omega) h.blk hrl h.row.reads).mono ?_
  rintro e w' ⟨r, rfl, hb, hr⟩
  refine ⟨r, rfl, hb, hr.trans ⟨fun hz => ⟨nx, ny, rfl, by omega, (x6A (by omega) b).1 hz⟩, fun ⟨a, d, he, h1, h2⟩ => ?_⟩⟩
  injection he with e1 e2
  obtain rfl : nx = a := by omega
  obtain rfl : ny = d := by omega
  exact (x6A (by omega) b).2 h2
theorem x4B (A : OA) (n c i : Nat) (h : i <= c) (w : World) : (Instr.slice 135 (.slice A n c) none (some (.int .i64 (i : Int))) none).run prog w = .ok (.slice (if c = 0 then A else A.map (·.add 0)) i c) w := by
 have hsz : ∀ w, (sizeOf (prog.elem 135)).run prog w = .ok 2 w := fun w => by kernel_rfl
 rw [run_slice_h w 135 A n c (by kernel_rfl) .i64 (i : Int) (by omega) (by omega), hsz]
 simp [Result.andThen, sliced]
theorem xFD (A : OA) (n c i : Nat) (h : i + 1 <= c) (w : World) : (Instr.slice 135 (.slice A n c) (some (.int .i64 (i : Int))) (some (.int .i64 ((i : Int) + 1))) none).run prog w = .ok (.slice (A.map (·.add (i * 2))) 1 (c - i)) w := by
 have hsz : ∀ w, (sizeOf (prog.elem 135)).run prog w = .ok 2 w := fun w => by kernel_rfl
 rw [run_slice_lh w 135 A n c (by kernel_rfl) .i64 .i64 (i : Int) ((i : Int) + 1) (by omega) (by omega) (by omega), hsz]
 simp only [Result.andThen, sliced, kP]
 rw [show ((i : Int) + 1).toNat - i = 1 by omega, if_neg (by omega)]
def TurnOk (fl : List Bool) (es : List (Int × Int)) (b : Bool) (ns : List (Nat × Nat)) : Prop := es = natE ns /\ (∀ e ∈ ns, 1 <= e.2) /\ OkA fl ns b
theorem TurnOk.snoc {fl : List Bool} {es : List (Int × Int)} {b : Bool} {ns : List (Nat × Nat)} (h : TurnOk fl es b ns) {e : Int × Int} (ha : AllE (setA fl ns b) e (!b)) : ∃ x y : Nat, e = ((x : Int), (y : Int)) /\ AllR (setA fl ns b) x y (!b) /\ TurnOk fl (es ++ [e]) b (ns ++ [(x, y)]) := by
 obtain ⟨x, y, rfl, hy, ha⟩ := ha
 refine ⟨x, y, rfl, ha, by rw [h.1]; simp [natE], fun e he => ?_, OkA.app.2 ⟨h.2.2, ha, trivial⟩⟩
 rcases mem_append.1 he with he | he
 ·exact h.2.1 e he
 ·simp at he; subst he; exact hy
theorem TurnOk.stop {es fs : List (Int × Int)} {b : Bool} {ns : List (Nat × Nat)} (h : TurnOk fl es b ns) {e : Int × Int} (ha : ¬ AllE (setA fl ns b) e (!b)) : ∀ ms, ¬ TurnOk fl (es ++ e :: fs) b ms := by
 rintro ms ⟨h1, h2, h3⟩
 have hl : es.length <= ms.length := by have := congrArg List.length h1; simp [natE] at this; omega
 have e1 : natE (ms.take es.length) = es := by
  have := congrArg (List.take es.length) h1
  rw [take_left' rfl] at this
  rw [natE, map_take]
  exact this.symm
 have inj : ∀ a b : List (Nat × Nat), natE a = natE b -> a = b := fun a b hab => by
  refine (List.map_inj_right ?_).1 hab
  rintro ⟨p, q⟩ ⟨p', q'⟩ hh
  simp only [Prod.mk.injEq] at hh ⊢
  omega
 have e2 : ms.take es.length = ns := inj _ _ (e1.trans h.1)
 have e3 := congrArg (List.drop es.length) h1
 rw [drop_left' rfl, natE, <- map_drop] at e3
 cases hd : ms.drop es.length with
 | nil => rw [hd] at e3; simp at e3
 | cons m r =>
  rw [hd] at e3
  simp only [map_cons, List.cons.injEq] at e3
  have hm : m ∈ ms := mem_of_mem_drop (by rw [hd]; exact mem_cons_self ..)
  rw [<- take_append_drop es.length ms, e2, hd, OkA.app] at h3
  exact ha ⟨m.1, m.2, e3.1, h2 m hm, h3.2.1⟩
def TurnTo (w : World) (g r c : Nat) (A : OA) (fl : List Bool) (es : List (Int × Int)) (b : Bool) (e : Ending) (w' : World) : Prop :=
  Only [g, r] w w' /\ ((∃ ns, TurnOk fl es b ns /\ e = .returned .nilIface /\ SAt w' g r A c (setA fl ns b) (cnt (setA fl ns b))) ∨ ((∀ ns, ¬ TurnOk fl es b ns) /\ e = .returned (errV 1) /\ SAt w' g r A c fl (cnt fl)))
theorem xC2 (es : List (Int × Int)) (b : Bool) (hI : ∀ e ∈ es, InI e) (h : SAt w g r A c fl (cnt fl)) (hgr : g ≠ r) (E : OA) (c' : Nat) (hc' : es.length <= c') (hR : ExtR w B E es) (hB : B <= w.heap.size)
 (hfar : ∀ ad, E = some ad -> ad.block ≠ g /\ ad.block ≠ r) (hle : es.length <= 65536) :
  Calls prog 211 #[.pointer (some ⟨g, 0, none⟩), .slice E es.length c', .bool b] w (TurnTo w g r c A fl es b) := by
 have H0 := kH h
 have HR := kH hR
 have HF := kH hfar
 have HI := kH hI
 clear h hR hfar hI
 go_enter func211, ntmps211
 go_wp2
 go_loopw [11] (fun i wr => ∃ (k : Nat) (ns : List (Nat × Nat)), k <= es.length /\ i = .int .i64 k /\ Only [g, r] w wr /\ TurnOk fl (es.take k) b ns /\ SAt wr g r A c (setA fl ns b) (cnt (setA fl ns b))) (fun i _ => es.length - (intS i).toNat)
 case atStart => exact ⟨0, [], by omega, rfl, kU _ _, ⟨rfl, by simp, trivial⟩, by simpa [setA] using H0.out⟩
 case round =>
  obtain ⟨k, ns, hk, rfl, ho, ht, hs⟩ := hrel
  obtain ⟨wo, hwo⟩ := kX wr
  subst hwo
  have HS := kH hs
  have HT := kH ht
  have HOn := kH ho
  have hRr : ExtR wo B E es := HR.out.only ho hB (fun ad h => by have := HF.out ad h; simp; omega)
  clear hs ho ht
  by_cases hlt : k < es.length
  ·obtain ⟨ad, e, rfl, hab, he, hc0, hc1⟩ := hRr.get hlt
   have HRr := kH hRr
   have hie : InI e := HI.out e (mem_of_getElem? he)
   have htk := take_add_one (l := es) (i := k)
   rw [he] at htk
   have hsp : es = es.take k ++ e :: es.drop (k + 1) := by
    have h0 := (take_append_drop k es).symm
    rwa [drop_eq_getElem_cons hlt, show es[k] = e by rw [List.getElem?_eq_getElem hlt] at he; injection he] at h0
   have HT2 := kH (kA htk (kA hsp he))
   have S1 : SAt (wo.alloc (.cells #[.int .i64 e.1, .int .i64 e.2] 198)) g r A c (setA fl ns b) (cnt (setA fl ns b)) := HS.out.of (kG _ _ _ HS.out.blk.lt) (fun _ _ hb => kG _ _ _ hb.lt)
   have O1 : Only [g, r] w (wo.alloc (.cells #[.int .i64 e.1, .int .i64 e.2] 198)) := HOn.out.alloc _
   have HS1 := kH S1
   have HO1 := kH O1
   have HA := kH (xLE e (!b) hie S1)
   clear hRr htk hsp he S1 O1
   go_wp2_with (refine x29 rfl (.tmp 14) rfl _ rfl _ hc0 hc1 ?_)
   clear hc0 hc1
   refine HA.out.mono ?_
   rintro e3 w3 ⟨rr, rfl, hb3, hrr⟩
   have S3 : SAt w3 g r A c (setA fl ns b) (cnt (setA fl ns b)) := HS1.out.of (hb3.block g HS1.out.blk.lt) (fun _ _ hx => hb3.block r hx.lt)
   have O3 : Only [g, r] w w3 := HO1.out.trans (kO hb3 [g, r]) (kF _ _)
   have R3 : ExtR w3 B (some ad) es := HR.out.only O3 hB (fun ad h => by have := HF.out ad h; simp; omega)
   have z3 := O3.size
   have HX := kH (kA S3 (kA O3 R3))
   have HRR := kH hrr
   clear HS HS1 HO1 HA HRr S3 O3 R3 hb3 hrr
   cases rr
   ·have hno : ¬ AllE (setA fl ns b) e (!b) := fun h => by have := HRR.out.2 h; cases this
    have HN := kH hno
    clear hno
    have hkl : (es.take k).length = k := by simp; omega
    have hnl : ns.length = k := by have := congrArg List.length HT.out.1; simp [natE] at this; omega
    have hback := HT.out.2.2.back
    have hRk : ExtR w3 B (some ad) (natE ns) := by
     rw [<- HT.out.1]
     have := HX.out.2.2
     refine ⟨by rw [x6C], fun hn => ?_⟩
     obtain ⟨ad', e', hb', hc'⟩ := this.2 (by omega)
     refine ⟨ad', e', hb', fun j u hu => hc' j u ?_⟩
     rw [<- take_append_drop k es, extS, flatMap_append]
     exact (List.getElem?_append_left (show j < (extS (es.take k)).length from (List.getElem?_eq_some_iff.1 hu).1)).trans hu
    have hsl := x4B (some ad) es.length c' k (by omega)
    have hadd : (if c' = 0 then some ad else Option.map (fun x => Addr.add x 0) (some ad)) = some ad := by split <;> simp [Addr.add]
    rw [hadd] at hsl
    have hset := x96 (B := B) ns (!b) (hback.1) HX.out.1 hgr (some ad) c' hRk (by omega) (fun ad' h => HF.out ad' h) (by omega)
    rw [hback.2, hnl] at hset
    have HSE := kH hset
    clear hset hback hRk hadd
    go_wp2_with fail
    refine HSE.out.mono ?_
    rintro e4 w4 ⟨rfl, ho4, hs4⟩
    go_wp2
    go_ret
    refine ⟨HX.out.2.1.trans ho4 (kF _ _), .inr ⟨?_, rfl, hs4⟩⟩
    rw [HT2.out.2.1]
    exact HT.out.stop HN.out
   ·obtain ⟨x, y, rfl, hxy, htn⟩ := HT.out.snoc (HRR.out.1 rfl)
    have hRk : ExtR w3 B (some (ad.add (k * 2))) (natE [(x, y)]) := by
     have := HX.out.2.2
     obtain ⟨ad', e1, e', hb', h0, h1, h2⟩ := this.get hlt
     have he2 := HT2.out.2.2
     rw [h0] at he2
     injection he2 with he2
     subst he2
     injection e' with e'
     subst e'
     refine ⟨rfl, fun _ => ⟨_, rfl, by rw [x0K]; exact hb', fun j u hu => ?_⟩⟩
     match j, hu with
     | 0, hu => simp [extS, ext1, natE] at hu; subst hu; simpa [Addr.add] using h1
     | 1, hu => simp [extS, ext1, natE] at hu; subst hu; exact h2
    have hsl := xFD (some ad) es.length c' k (by omega)
    rw [Option.map_some] at hsl
    have hset := x96 (B := B) [(x, y)] b ⟨hxy, trivial⟩ HX.out.1 hgr (some (ad.add (k * 2))) (c' - k) hRk (by omega) (fun ad' h => by injection h with h; subst h; rw [x0K]; exact HF.out ad rfl) (by simp)
    rw [show setA (setA fl ns b) [(x, y)] b = setA fl (ns ++ [(x, y)]) b from (x94 _ _ _ _).symm] at hset
    have HSE := kH hset
    have HTN := kH htn
    have hwk := wK k (by omega)
    clear hset hRk hxy htn
    go_wp2_with fail
    refine HSE.out.mono ?_
    rintro e4 w4 ⟨rfl, ho4, hs4⟩
    have HF4 := kH (kA ho4 hs4)
    clear ho4 hs4
    go_wp2
    go_roundw
    case rel => exact ⟨k + 1, ns ++ [(x, y)], by omega, by go_num, HX.out.2.1.trans HF4.out.1 (kF _ _), by rw [HT2.out.1]; exact HTN.out, HF4.out.2⟩
    case measure => simp [intS]; omega
  ·obtain rfl : k = es.length := by omega
   clear hRr
   go_wp2
   go_ret
   have h := HT.out
   rw [take_length] at h
   exact ⟨HOn.out, .inl ⟨ns, h, rfl, HS.out⟩⟩
theorem xIS (n : Nat) (hn : n <= 65536) (w : World) : Calls prog 242 #[.int .u64 1, .int .u64 n] w fun e w' => e = .returned (.tuple #[.int .u64 0, .int .u64 n]) /\ w = w' := by
 have hb1 : bits .and .u64 1 4294967295 = 1 := by kernel_rfl
 have hb0 : bits .and .u64 0 4294967295 = 0 := by kernel_rfl
 have hbn : bits .and .u64 (n : Int) 4294967295 = (n : Int) := by
  have h := bits_and_u64_nat n 4294967295 (by omega) (by omega)
  rw [show n &&& 4294967295 = n from Nat.and_two_pow_sub_one_of_lt_two_pow (n := 32) (by omega)] at h
  exact h
 have hd : (n : Int) / 4294967296 = 0 := by omega
 have hwn : IntKind.u64.wrap (n : Int) = (n : Int) := by rw [IntKind.wrap_u64]; omega
 have hw0 : IntKind.u64.wrap 0 = 0 := by kernel_rfl
 go_enter func242, ntmps242
 go_wp2
 go_ret2
 simp [hb1, hb0, hbn, hd, hwn, hw0]
theorem xF8 (n : Nat) (hn : n <= 65536) (w : World) : Calls prog 203 #[.int .u64 1, .int .u64 n] w fun e w' => e = .returned (.tuple #[.int .u64 0, .int .u64 n]) /\ w = w' := by
 go_enter func203, ntmps203
 go_wp2_with fail
 refine (xIS n hn w).mono ?_
 rintro e w' ⟨rfl, rfl⟩
 go_wp2
 go_ret2
 exact ⟨rfl, rfl⟩
theorem xBY : (prog.info? 4).map (fun i => (i.zero, i.size, i.bytes)) = some (some (.bool false), 1, 1) := by kernel_rfl
theorem x61 : (prog.info? 4).map (·.size) = some 1 := by kernel_rfl
theorem xHW (m k : Nat) (v : Value) (hm : 0 < m) : madeCells (List.replicate m v).toArray k = (List.replicate k v).toArray := by
 unfold madeCells
 apply Array.ext
 ·simp
 ·intro i h1 h2
  have h3 : i % m < m := Nat.mod_lt _ hm
  have h4 : i % (List.replicate m v).toArray.size < (List.replicate m v).toArray.size := by simpa using h3
  rw [Array.getElem_map, Array.getElem_range, getElem!_pos (List.replicate m v).toArray (i % (List.replicate m v).toArray.size) h4]
  simp
theorem xI2 (k : Nat) (v : Value) : madeCells (List.replicate 1 v).toArray k = (List.replicate k v).toArray := xHW 1 k v (by omega)
def fillB (n k : Nat) : Array Value := (List.replicate k (Value.bool true) ++ List.replicate (n - k) (Value.bool false)).toArray
theorem xAB (h : k + m <= n) : ((fillB n k).toList.take k ++ List.replicate m (Value.bool true) ++ (fillB n k).toList.drop (k + m)).toArray = fillB n (k + m) := by
 have e1 : (List.replicate k (Value.bool true) ++ List.replicate (n - k) (Value.bool false)).take k = List.replicate k (Value.bool true) := by simp
 have e2 : (List.replicate k (Value.bool true) ++ List.replicate (n - k) (Value.bool false)).drop (k + m) = List.replicate (n - (k + m)) (Value.bool false) := by
  rw [drop_append, drop_of_length_le (by simp), length_replicate, nil_append, drop_replicate]
  congr 1; omega
 simp only [fillB, e1, e2, List.replicate_append_replicate]
theorem xH6 (n : Nat) : fillB n n = (List.replicate n (Value.bool true)).toArray := by simp [fillB]
theorem xI8 (h : Blk w r 4 (fillB n k)) (hj : j < k) : w.cell? ⟨r, j, none⟩ = some (.bool true) := by
 rw [h.cell]
 simp only [fillB, List.getElem?_toArray]
 rw [List.getElem?_append_left (by simpa using hj), List.getElem?_replicate, if_pos hj]
theorem xCD {c2 : Nat} (h : Blk w r 4 (fillB n k)) (hk : 0 < k) (hkn : k < n) (hm : m = Nat.min k (n - k)) :
  (Builtin.copy_ #[23, 23] 3 #[.slice (some ⟨r, k, none⟩) (n - k) (n - k), .slice (some ⟨r, 0, none⟩) k c2]).run prog w = .ok (.int .i64 m) (w.setRow r (fillB n (k + m))) := by
 have hmk : m <= k /\ m <= n - k := by subst hm; exact ⟨Nat.min_le_left _ _, Nat.min_le_right _ _⟩
 have := run_copy_row (P := prog) w 23 23 3 4 r k (n - k) (n - k) ⟨r, 0, none⟩ k c2 (fillB n k) 4 (List.replicate m (.bool true)) underlying23 x61 h (by simpa using hm) (fun j v hj => by
  rw [List.getElem?_replicate] at hj
  split at hj
  ·injection hj with hj; subst hj; rw [x19]; exact xI8 h (by omega)
  ·cases hj) (by simp [fillB]; omega) (fun v hv => by rw [eq_of_mem_replicate hv]; rfl)
 rw [this, length_replicate, xAB (by omega)]
 rfl
theorem xAD {cs ds : Array Value} (h : Blk w r t cs) : Blk (w.setRow r ds) r t ds := setRow_heap w r cs ds t (0, 0) h
theorem xIC (n gx : Nat) (hn : n <= 65536) (w : World) (hx : w.cell? ⟨gx, 0, none⟩ = some (.bool true)) (hgx : gx < w.heap.size) :
  Calls prog 143 #[.slice (some ⟨gx, 0, none⟩) 1 1, .int .i64 n] w fun e w' => ∃ r, e = .returned (.slice (some ⟨r, 0, none⟩) n n) /\ w.heap.size <= r /\ Blk w' r 4 (List.replicate n (Value.bool true)).toArray /\ Below w.heap.size w w' := by
 have hmk : ∀ w : World, (Instr.makeSlice 23 (.int .i64 (n : Int)) (.int .i64 (n : Int))).run prog w = .ok (.slice (some ⟨w.heap.size, 0, none⟩) n n) (w.alloc (.cells (fillB n 0) 4)) := by
  intro w
  obtain ⟨i0, hi0, hz0, hz1, hz2⟩ := info_parts xBY
  have := run_make (P := prog) w 23 4 i0 (.bool false) underlying23 hi0 hz0 .i64 .i64 n n (by omega) (by omega) (by rw [hz2]; omega) (by omega)
  rw [hz1] at this
  simp only [kP, Nat.mul_one] at this
  rw [this]
  have e : (Value.bool false).cells = (List.replicate 1 (Value.bool false)).toArray := rfl
  rw [e, xI2]
  simp [fillB]
 have hB0 : Blk (w.alloc (.cells (fillB n 0) 4)) w.heap.size 4 (fillB n 0) := kW _ _ _
 have hx1 : (w.alloc (.cells (fillB n 0) 4)).cell? ⟨gx, 0, none⟩ = some (.bool true) := (World.cell?_alloc_lt w _ _ hgx).trans hx
 have hc1 : ∃ W, W.heap.size = w.heap.size + 1 /\ Below w.heap.size w W /\ Blk W w.heap.size 4 (fillB n (min 1 n)) /\ (Builtin.copy_ #[23, 23] 3 #[.slice (some ⟨w.heap.size, 0, none⟩) n n, .slice (some ⟨gx, 0, none⟩) 1 1]).run prog (w.alloc (.cells (fillB n 0) 4)) = .ok (.int .i64 (min 1 n : Nat)) W := by
  by_cases h0 : n = 0
  ·subst h0
   exact ⟨_, by simp, (kB _ _).alloc (kR _) _, hB0, run_copy_none _ _ _ _ 4 _ _ _ _ _ _ underlying23 x61 rfl⟩
  ·have h1 : min 1 n = 1 := by omega
   rw [h1]
   have := run_copy_row (P := prog) (w.alloc (.cells (fillB n 0) 4)) 23 23 3 4 w.heap.size 0 n n ⟨gx, 0, none⟩ 1 1 (fillB n 0) 4 (List.replicate 1 (.bool true)) underlying23 x61 hB0 (by
    show 1 = Nat.min 1 n
    exact h1.symm) (fun j v hj => by
    match j, hj with
    | 0, hj => simp at hj; subst hj; simpa [Addr.add] using hx1) (by simp [fillB]; omega) (fun v hv => by rw [eq_of_mem_replicate hv]; rfl)
   refine ⟨_, ?_, ?_, ?_, this⟩
   ·simp [World.setRow]
   ·exact below_setRow ((kB _ _).alloc (kR _) _) (kR _) _
   ·have e := xAB (n := n) (k := 0) (m := 1) (by omega)
    simp only [Nat.zero_add] at e
    rw [length_replicate, Nat.zero_add, e]
    exact xAD hB0
 obtain ⟨W, hWs, hWb, hWB, hrun⟩ := hc1
 have HW := kH (kA hWb hWB)
 have hkk : min 1 n <= n := Nat.min_le_right _ _
 have hk0 : 0 < n -> 0 < min 1 n := by omega
 clear hx hB0 hx1 hWb hWB
 generalize min 1 n = k0 at *
 have hg1 : decide ((9223372036854775807 : Int) < (n : Int)) = false := decide_eq_false (by omega)
 have hg0 : decide ((n : Int) < 0) = false := decide_eq_false (by omega)
 go_enter func143, ntmps143
 go_wp2_with fail
 refine (xF8 n hn w).mono ?_
 rintro e w' ⟨rfl, rfl⟩
 go_wp2_with fail
 generalize hrr : w.heap.size = r at *
 have HRR := kH hrr
 clear hrr
 go_loopw [8] (fun i wr => ∃ k : Nat, k <= n /\ (0 < n -> 0 < k) /\ i = .int .i64 k /\ Blk wr r 4 (fillB n k) /\ Below r w wr) (fun i _ => n - (intS i).toNat)
 case atStart => exact ⟨k0, hkk, hk0, rfl, HW.out.2, HW.out.1⟩
 case round =>
  obtain ⟨k, hk, hkp, rfl, hB, hb⟩ := hrel
  by_cases hlt : k < n
  ·have hc := xCD (c2 := n) hB.drew (hkp (by omega)) hlt rfl
   have HB := kH (kA hB hb)
   have hmp : 0 < Nat.min k (n - k) := Nat.lt_min.2 ⟨hkp (by omega), by omega⟩
   have hmn : k + Nat.min k (n - k) <= n := by have : Nat.min k (n - k) <= n - k := Nat.min_le_right k (n - k); omega
   clear hB hb
   generalize Nat.min k (n - k) = m at *
   have hne : ¬ (n = k) := by omega
   have hwx : IntKind.i64.wrap ((k : Int) + (m : Int)) = (k : Int) + (m : Int) := by rw [kI]; omega
   go_wp2
   go_region
   all_goals go_wp2
   all_goals
    refine ⟨⟨k + m, hmn, fun _ => by omega, by go_num, ?_, ?_⟩, by simp [intS]; omega⟩
    ·exact xAD HB.out.1.drew
    ·exact below_setRow (x08 HB.out.2 1) (kR _) _
  ·obtain rfl : k = n := by omega
   have HB := kH (kA hB hb)
   clear hB hb
   go_wp2
   go_ret
   exact ⟨r, rfl, by rw [HRR.out]; exact kR _, by rw [<- xH6]; exact HB.out.1, by rw [HRR.out]; exact HB.out.2⟩
theorem xM9 (n : Int) (h : n < 0 ∨ 65536 < n) (w : World) : Calls prog 93 #[.int .i64 n] w fun e w' => e = .returned (.tuple #[.pointer none, errV 1]) /\ w = w' := by
 by_cases h1 : n < 0
 ·have hd : decide (n < 0) = true := decide_eq_true h1
  clear h
  go_enter func93, ntmps93
  go_wp2
  go_ret2
  exact ⟨rfl, rfl⟩
 ·have hd : decide (n < 0) = false := decide_eq_false h1
  have hd2 : decide ((65536 : Int) < n) = true := decide_eq_true (by omega)
  clear h
  go_enter func93, ntmps93
  go_wp2
  go_ret2
  exact ⟨rfl, rfl⟩
theorem xOB (n : Nat) : cnt (List.replicate n true) = n := by simp [cnt, countP_replicate]
def NewS (w : World) (fl : List Bool) (p : Value) (w' : World) : Prop := ∃ g r A c, p = .pointer (some ⟨g, 0, none⟩) /\ SAt w' g r A c fl (cnt fl) /\ g ≠ r /\ w.heap.size <= g /\ w.heap.size <= r /\ Below w.heap.size w w'
theorem xNQ (n : Nat) (hn : n <= 65536) (w : World) : Calls prog 93 #[.int .i64 n] w fun e w' => ∃ p, e = .returned (.tuple #[p, .nilIface]) /\ NewS w (List.replicate n true) p w' := by
 have hd : decide ((n : Int) < 0) = false := decide_eq_false (by omega)
 have hd2 : decide ((65536 : Int) < (n : Int)) = false := decide_eq_false (by omega)
 have hbs : ∀ w : World, (Instr.buildSlice 23 1 #[(0, .bool true)]).run prog w = .ok (.slice (some ⟨w.heap.size, 0, none⟩) 1 1) (w.alloc (.cells #[.bool true] 4)) := fun w => x1D (size := 1) underlying23 (by kernel_rfl) (by omega) (by omega) rfl w
 have HR := kH (xIC n w.heap.size hn (w.alloc (.cells #[.bool true] 4)) ((kW w 4 #[.bool true]).cell 0) (by simp))
 go_enter func93, ntmps93
 go_wp2_with fail
 refine HR.out.mono ?_
 rintro e w' ⟨r, rfl, hr, hB, hb⟩
 simp only [kJ] at hr hb
 have H := kH (kA hr (kA hB hb))
 clear hr hB hb
 go_wp2
 go_ret2
 obtain ⟨hr, hB, hb⟩ := H.out
 have hs := hb.size
 have hlt := hB.lt
 refine ⟨_, rfl, w'.heap.size, r, some ⟨r, 0, none⟩, n, rfl, ⟨?_, by simp, by simpa using hn, ?_⟩, by omega, by omega, by omega, ?_⟩
 ·rw [xOB, length_replicate]
  exact kW _ _ _
 ·refine .inr ⟨rfl, _, hB.alloc _, fun j v hj => ?_⟩
  rw [List.getElem?_replicate] at hj
  split at hj
  ·injection hj with hj
   subst hj
   simp [*]
  ·cases hj
 ·have h1 : Below w.heap.size w (w.alloc (.cells #[.bool true] 4)) := (kB _ _).alloc (kR _) _
  exact (h1.trans (hb.mono (by omega))).alloc (by omega) _
theorem xH5 (l : List Bool) : ∀ u ∈ flagsS l, u.oneCell' = true := by
 intro u hu
 obtain ⟨b, _, rfl⟩ := List.mem_map.1 hu
 rfl
theorem xDX (hl : fl.length <= 65536) (hR : Reads w B 1 A fl.length (flagsS fl)) (hB : B <= w.heap.size) :
    Calls prog 151 #[.slice A fl.length c] w fun e w' => ∃ v, e = .returned v /\ w'.ownsRow w.heap.size 4 1 v fl.length (flagsS fl) /\ Below w.heap.size w w' := by
  have qT : ∀ (w : World) (a : OA) (n c n' c' : Nat), (binOp .eql 23 (.slice a n c) (.slice none n' c')).run prog w = .ok (.bool a.isNone) w := fun w a n c n' c' => Lib.run_eql_slice_nil w _ _ a n c n' c' underlying23
  rcases A with _ | ad
  · have h0 : fl = [] := by
      rcases Nat.eq_zero_or_pos fl.length with h | h
      · exact eq_nil_of_length_eq_zero h
      · obtain ⟨ad, e, _⟩ := hR.2 h
        cases e
    subst h0
    go_enter func151, ntmps151
    go_wp2
    go_ret
    exact ⟨_, rfl, World.ownsRow_nil w _ _ 1, kB _ _⟩
  · have HR := kH hR
    have hbs : ∀ w : World, (Instr.buildSlice 23 0 #[]).run prog w = .ok (.slice (some ⟨w.heap.size, 0, none⟩) 0 0) (w.alloc (.cells #[] 4)) := fun w => by kernel_rfl
    have hown : (w.alloc (.cells #[] 4)).ownsRow w.heap.size 4 1 (.slice (some ⟨w.heap.size, 0, none⟩) 0 0) 0 [] := World.ownsRow_lit w #[] 0 (kR _) (by simp [maxLen]) rfl
    have HO := kH hown
    have HB := kH (Below.alloc (kB w.heap.size w) (kR _) (.cells #[] 4))
    obtain ⟨i0, hi0, hz0, hz1, hz2⟩ := info_parts xBY
    clear hR hown
    go_enter func151, ntmps151
    go_wp2_with (refine x0Z _ rfl (.tmp 5) (.tmp 6) _ rfl w.heap.size 4 i0 _ 1 1 underlying23 hi0 hz0 hz1 hz2 rfl (by omega) (.slice (some ⟨w.heap.size, 0, none⟩) 0 0) 0 [] rfl HO.out B (some ad) fl.length c (flagsS fl) rfl (HR.out.alloc hB _) (xH5 _) (by simp [maxLen]; omega) (by omega) (by simp) ?_; intro v2 w2 h2 g2 a2)
    have hb2 : Below w.heap.size w w2 := HB.out.grown g2 (by simp) (fun j hj => by simp [Value.ownBlock] at hj; omega)
    have H2 := kH (kA h2 hb2)
    clear h2 hb2 g2 a2
    go_wp2
    go_ret
    have := H2.out.1
    simp only [Nat.zero_add, nil_append] at this
    exact ⟨v2, rfl, this, H2.out.2⟩
theorem xF0 {v : Value} (h : w.ownsRow base 4 1 v fl.length (flagsS fl)) : ∃ A c r, v = .slice A fl.length c /\ fl.length <= c /\ FRow w r A fl /\ (fl ≠ [] -> base <= r /\ r < w.heap.size) := by
 rcases h.2 with ⟨rfl, h0⟩ | ⟨g, cap, cur, rfl, hb, hh, hn, hm, hs, ht⟩
 ·exact ⟨none, 0, 0, by rw [h0], by omega, .inl (eq_nil_of_length_eq_zero h0), fun hne => absurd (eq_nil_of_length_eq_zero h0) hne⟩
 ·refine ⟨_, cap, g, rfl, hn, .inr ⟨rfl, cur, hh, fun j v hj => ?_⟩, fun _ => ⟨hb, Blk.lt (t := 4) hh⟩⟩
  have h1 : (flagsS fl)[j]? = some (.bool v) := by simp [flagsS, hj]
  rw [<- ht, List.getElem?_take] at h1
  split at h1
  ·simpa using h1
  ·cases h1
theorem xK9 (h : SAt w g r A c fl (cnt fl)) : Calls prog 99 #[.pointer (some ⟨g, 0, none⟩)] w fun e w' => ∃ p, e = .returned p /\ NewS w fl p w' := by
  have q0 : w.cell? ⟨g, 0, none⟩ = some (.slice A fl.length c) := h.blk.cell 0
  have q1 : w.cell? ⟨g, 1, none⟩ = some (.int .i64 (cnt fl)) := h.blk.cell 1
  have hlim := h.lim
  have hgl := h.blk.lt
  have hrd : Reads w w.heap.size 1 A fl.length (flagsS fl) := by
    rcases h.row with e | ⟨_, cs, hb, _⟩
    · subst e; exact ⟨rfl, fun h => by simp at h⟩
    · exact h.row.reads.more hb.lt
  have HC := kH (fun wx (hx : ∃ q, wx = w.drewN q) => (show Calls prog 151 #[.slice A fl.length c] wx fun e w' => ∃ A2 c2 r2, e = .returned (.slice A2 fl.length c2) /\ fl.length <= c2 /\ FRow w' r2 A2 fl /\ (fl ≠ [] -> w.heap.size <= r2 /\ r2 < w'.heap.size) /\ Below w.heap.size w w' from by
    obtain ⟨q, rfl⟩ := hx
    refine (xDX (w := w.drewN q) hlim (hrd.drewN q) (kR _)).mono ?_
    rintro e w' ⟨v, rfl, ho, hb⟩
    obtain ⟨A2, c2, r2, rfl, h1, h2, h3⟩ := xF0 (base := w.heap.size) ho
    exact ⟨A2, c2, r2, rfl, h1, h2, h3, hb.os, hb.tape, hb.output, hb.size, hb.block⟩))
  clear h hrd
  go_enter func99, ntmps99
  go_wp2
  go_region_with (go_at_call 151; refine (HC.out _ ⟨1, rfl⟩).mono ?_; rintro e w2 ⟨A2, c2, r2, rfl, ho1, ho2, ho3, hb⟩; obtain ⟨hc, hf⟩ : (∀ b o, b < w.heap.size -> w2.cell? ⟨b, o, none⟩ = w.cell? ⟨b, o, none⟩) /\ (∀ b o, b < w.heap.size -> w2.frozen? ⟨b, o, none⟩ = w.frozen? ⟨b, o, none⟩) := ⟨fun b o h => hb.cell (p := ⟨b, o, none⟩) h, fun b o h => hb.frozen (p := ⟨b, o, none⟩) h⟩)
  all_goals
    have HX := kH (kA ho1 (kA ho2 (kA ho3 hb)))
    clear ho1 ho2 ho3 hb hc hf
    go_wp2
    go_ret
    obtain ⟨h1, h2, h3, h4⟩ := HX.out
    have hz := h4.size
    refine ⟨_, rfl, ?_⟩
    rcases h2 with h2 | h2
    · exact ⟨w2.heap.size, w2.heap.size + 1, A2, c2, rfl, ⟨kW _ _ _, h1, hlim, .inl h2⟩, by omega, by omega, by omega, h4.alloc (by omega) _⟩
    · have h5 : fl = [] ∨ (w.heap.size <= r2 /\ r2 < w2.heap.size) := by
        by_cases e : fl = []
        · exact .inl e
        · exact .inr (h3 e)
      rcases h5 with h5 | h5
      · exact ⟨w2.heap.size, w2.heap.size + 1, A2, c2, rfl, ⟨kW _ _ _, h1, hlim, .inl h5⟩, by omega, by omega, by omega, h4.alloc (by omega) _⟩
      · exact ⟨w2.heap.size, r2, A2, c2, rfl, ⟨kW _ _ _, h1, hlim, .inr ⟨h2.1, h2.2.choose, h2.2.choose_spec.1.alloc _, h2.2.choose_spec.2⟩⟩, by omega, by omega, by omega, h4.alloc (by omega) _⟩
theorem xA4 (es : List (Int × Int)) (hI : ∀ e ∈ es, InI e) (h : SAt w g r A c fl (cnt fl)) (hgr : g ≠ r) (E : OA) (c' : Nat) (hc' : es.length <= c') (hR : ExtR w B E es) (hB : B <= w.heap.size)
 (hfar : ∀ ad, E = some ad -> ad.block ≠ g /\ ad.block ≠ r) (hle : es.length <= 65536) :
  Calls prog 221 #[.pointer (some ⟨g, 0, none⟩), .slice E es.length c'] w (TurnTo w g r c A fl es false) := by
 have HC := kH (xC2 es false hI h hgr E c' hc' hR hB hfar hle)
 clear hI h hR hfar
 go_enter func221, ntmps221
 go_wp2_with fail
 refine HC.out.mono ?_
 rintro e w' ⟨ho, ⟨ns, h1, rfl, h2⟩ | ⟨h1, rfl, h2⟩⟩
 ·have HX := kH (kA ho (kA h1 h2))
  clear ho h1 h2
  go_wp2
  go_ret
  exact ⟨HX.out.1, .inl ⟨ns, HX.out.2.1, rfl, HX.out.2.2⟩⟩
 ·have HX := kH (kA ho (kA h1 h2))
  clear ho h1 h2
  go_wp2
  go_ret
  exact ⟨HX.out.1, .inr ⟨HX.out.2.1, rfl, HX.out.2.2⟩⟩
theorem xBQ (es : List (Int × Int)) (hI : ∀ e ∈ es, InI e) (h : SAt w g r A c fl (cnt fl)) (hgr : g ≠ r) (E : OA) (c' : Nat) (hc' : es.length <= c') (hR : ExtR w B E es) (hB : B <= w.heap.size)
 (hfar : ∀ ad, E = some ad -> ad.block ≠ g /\ ad.block ≠ r) (hle : es.length <= 65536) :
  Calls prog 174 #[.pointer (some ⟨g, 0, none⟩), .slice E es.length c'] w (TurnTo w g r c A fl es true) := by
 have HC := kH (xC2 es true hI h hgr E c' hc' hR hB hfar hle)
 clear hI h hR hfar
 go_enter func174, ntmps174
 go_wp2_with fail
 refine HC.out.mono ?_
 rintro e w' ⟨ho, ⟨ns, h1, rfl, h2⟩ | ⟨h1, rfl, h2⟩⟩
 ·have HX := kH (kA ho (kA h1 h2))
  clear ho h1 h2
  go_wp2
  go_ret
  exact ⟨HX.out.1, .inl ⟨ns, HX.out.2.1, rfl, HX.out.2.2⟩⟩
 ·have HX := kH (kA ho (kA h1 h2))
  clear ho h1 h2
  go_wp2
  go_ret
  exact ⟨HX.out.1, .inr ⟨HX.out.2.1, rfl, HX.out.2.2⟩⟩
def cmpI (a b : Int) : Int := if a < b then -1 else if b < a then 1 else 0
theorem xAP (a : Int) (w : World) : Calls prog 287 #[.int .i64 a] w fun e w' => e = .returned (.bool false) /\ w' = w := by
 go_enter func287, ntmps287
 go_wp2
 go_ret
 simp
theorem x7S (a b : Int) (w : World) : Calls prog 279 #[.int .i64 a, .int .i64 b] w fun e w' => e = .returned (.int .i64 (cmpI a b)) /\ w' = w := by
 by_cases h1 : a < b
 ·have hd1 : decide (a < b) = true := decide_eq_true h1
  have hc : cmpI a b = -1 := if_pos h1
  rw [hc]
  go_enter func279, ntmps279
  go_wp2_with (first | (go_at_call 287; refine (xAP _ _).mono ?_; rintro e w' ⟨rfl, rfl⟩))
  go_ret
  exact ⟨rfl, rfl⟩
 ·have hd1 : decide (a < b) = false := decide_eq_false h1
  by_cases h2 : b < a
  ·have hd2 : decide (b < a) = true := decide_eq_true h2
   have hc : cmpI a b = 1 := by rw [cmpI, if_neg h1, if_pos h2]
   rw [hc]
   go_enter func279, ntmps279
   go_wp2_with (first | (go_at_call 287; refine (xAP _ _).mono ?_; rintro e w' ⟨rfl, rfl⟩))
   go_ret
   exact ⟨rfl, rfl⟩
  ·have hd2 : decide (b < a) = false := decide_eq_false h2
   have hc : cmpI a b = 0 := by rw [cmpI, if_neg h1, if_neg h2]
   rw [hc]
   go_enter func279, ntmps279
   go_wp2_with (first | (go_at_call 287; refine (xAP _ _).mono ?_; rintro e w' ⟨rfl, rfl⟩))
   go_ret
   exact ⟨rfl, rfl⟩
def orI (a b : Int) : Int := if a = 0 then b else a
theorem xJ8 (a b : Int) (g : Nat) (w : World) (h0 : w.cell? ⟨g, 0, none⟩ = some (.int .i64 a)) (h1 : w.cell? ⟨g, 1, none⟩ = some (.int .i64 b)) : Calls prog 278 #[.slice (some ⟨g, 0, none⟩) 2 2] w fun e w' => e = .returned (.int .i64 (orI a b)) /\ w' = w := by
 by_cases ha : a = 0
 ·subst ha
  by_cases hb : b = 0
  ·subst hb
   go_enter func278, ntmps278
   go_wp2
   go_rounds 3
   go_ret
   exact ⟨rfl, rfl⟩
  ·have hd : (b == 0) = false := by simpa using hb
   have hd2 : (b != 0) = true := by simpa using hb
   go_enter func278, ntmps278
   go_wp2
   go_rounds 2
   go_ret
   exact ⟨rfl, rfl⟩
 ·have hd : (a == 0) = false := by simpa using ha
  have hd2 : (a != 0) = true := by simpa using ha
  rw [show orI a b = a from if_neg ha]
  go_enter func278, ntmps278
  go_wp2
  go_rounds 1
  go_ret
  exact ⟨rfl, rfl⟩
section
def ERow (w : World) (r : Nat) (xs : List (Nat × Nat)) : Prop := ∃ cs : Array Value, Blk w r 198 cs /\ ∀ (k : Nat) (e : Nat × Nat), xs[k]? = some e -> cs[k * 2]? = some (.int .i64 (e.1 : Int)) /\ cs[k * 2 + 1]? = some (.int .i64 (e.2 : Int))
section
variable {w w' : World} {r : Nat} {xs : List (Nat × Nat)}
theorem ERow.get (h : ERow w r xs) {e : Nat × Nat} (hk : xs[k]? = some e) : w.cell? ⟨r, k * 2, none⟩ = some (.int .i64 (e.1 : Int)) /\ w.cell? ⟨r, k * 2 + 1, none⟩ = some (.int .i64 (e.2 : Int)) /\ w.frozen? ⟨r, k * 2, none⟩ = false /\ w.frozen? ⟨r, k * 2 + 1, none⟩ = false := by
 obtain ⟨cs, hb, hc⟩ := h
 obtain ⟨h1, h2⟩ := hc k e hk
 exact ⟨(hb.cell _).trans h1, (hb.cell _).trans h2, hb.frozen _, hb.frozen _⟩
theorem ERow.of (h : ERow w r xs) (e : w'.heap[r]? = w.heap[r]?) : ERow w' r xs := ⟨h.choose, h.choose_spec.1.of e, h.choose_spec.2⟩
theorem ERow.lt (h : ERow w r xs) : r < w.heap.size := h.choose_spec.1.lt
end
def lgB (e q : Nat × Nat) : Bool := decide (orI (cmpI (q.2 : Int) (e.2 : Int)) (cmpI (e.1 : Int) (q.1 : Int)) < 0)
theorem x7X (e q : Nat × Nat) : lgB e q = true ↔ Longer e q := by
 simp only [lgB, decide_eq_true_eq, orI, cmpI, Longer]
 by_cases h1 : (q.2 : Int) < (e.2 : Int)
 ·simp only [h1, if_true]; simp; omega
 ·by_cases h2 : (e.2 : Int) < (q.2 : Int)
  ·simp only [h1, h2, if_true, if_false]; simp; omega
  ·simp only [h1, h2, if_false, if_true]
   by_cases h3 : (e.1 : Int) < (q.1 : Int)
   ·simp only [h3, if_true]; simp; omega
   ·by_cases h4 : (q.1 : Int) < (e.1 : Int)
    ·simp only [h3, h4, if_true, if_false]; simp; omega
    ·simp only [h3, h4, if_false]; simp; omega
theorem xM7 {xs : List (Nat × Nat)} (h : ERow w r xs) (e q : Nat × Nat) (hi : xs[i]? = some e) (hj : xs[j]? = some q) (hin : i < n) (hjn : j < n) (hn : n <= 1000000) :
  Calls prog 307 #[.slice (some ⟨r, 0, none⟩) n c, .int .i64 i, .int .i64 j] w fun e' w' => e' = .returned (.bool (lgB e q)) /\ Below w.heap.size w w' := by
 obtain ⟨a0, a1, -, -⟩ := h.get hi
 obtain ⟨b0, b1, -, -⟩ := h.get hj
 clear h hi hj
 go_enter func307, ntmps307
 go_wp2_with fail
 refine wp_region_still_tail 22 (by kernel_rfl) (by kernel_rfl) ?_
 simp only [take_succ_cons, take_zero, drop_succ_cons, drop_zero]
 repeat still_step
 still_call (x7S _ _ _)
 repeat still_step
 still_call (x7S _ _ _)
 repeat still_step
 refine wpStill_nil ?_
 change wpList _ _ _ _ _ w.drew
 have hb : Below w.heap.size w w.drew := (kB _ _).drew
 have HL : Hid (lgB e q = decide (orI (cmpI (q.2 : Int) (e.2 : Int)) (cmpI (e.1 : Int) (q.1 : Int)) < 0)) := kH rfl
 generalize cmpI (q.2 : Int) (e.2 : Int) = ca at *
 generalize cmpI (e.1 : Int) (q.1 : Int) = cb at *
 generalize w.drew = w2 at *
 clear a0 a1 b0 b1
 have HO := kH (xJ8 ca cb w2.heap.size (w2.alloc (.cells #[.int .i64 ca, .int .i64 cb] 3)) ((kW w2 3 #[.int .i64 ca, .int .i64 cb]).cell 0) ((kW w2 3 #[.int .i64 ca, .int .i64 cb]).cell 1))
 have HB := kH (hb.alloc hb.size (.cells #[.int .i64 ca, .int .i64 cb] 3))
 clear hb
 go_wp2_with fail
 refine HO.out.mono ?_
 rintro e3 w3 ⟨rfl, rfl⟩
 go_wp2
 go_ret
 rw [HL.out]
 exact ⟨rfl, HB.out⟩
end
def swapL (xs : List (Nat × Nat)) (i j : Nat) : List (Nat × Nat) := (xs.set i (xs.getD j (0, 0))).set j (xs.getD i (0, 0))
theorem ERow.sets {xs : List (Nat × Nat)} (h : ERow w r xs) (hi : i < xs.length) (e : Nat × Nat) : ERow ((w.setCell ⟨r, i * 2, none⟩ (.int .i64 (e.1 : Int))).setCell ⟨r, i * 2 + 1, none⟩ (.int .i64 (e.2 : Int))) r (xs.set i e) := by
 obtain ⟨cs, hb, hc⟩ := h
 refine ⟨_, (hb.set_ (i * 2) _).set_ (i * 2 + 1) _, fun k q hk => ?_⟩
 have h0 := hc i _ (List.getElem?_eq_getElem hi)
 have l0 := (Array.getElem?_eq_some_iff.1 h0.1).1
 have l1 := (Array.getElem?_eq_some_iff.1 h0.2).1
 rw [List.getElem?_set] at hk
 simp only [Array.getElem?_setIfInBounds, Array.size_setIfInBounds]
 by_cases he : i = k
 ·subst he
  rw [if_pos rfl, if_pos hi] at hk
  injection hk with hk
  subst hk
  constructor
  ·rw [if_neg (by omega), if_pos rfl, if_pos l0]
  ·rw [if_pos rfl, if_pos l1]
 ·rw [if_neg he] at hk
  have := hc k q hk
  constructor
  ·rw [if_neg (by omega), if_neg (by omega)]; exact this.1
  ·rw [if_neg (by omega), if_neg (by omega)]; exact this.2
theorem xN6 {xs : List (Nat × Nat)} (h : ERow w r xs) (hij : i ≠ j) (hi : i < xs.length) (hj : j < xs.length) (hn : xs.length <= n) (hn2 : n <= 1000000) :
  Calls prog 308 #[.slice (some ⟨r, 0, none⟩) n c, .int .i64 i, .int .i64 j] w fun e' w' => e' = .returned (.tuple #[]) /\ ERow w' r (swapL xs i j) /\ Only [r] w w' /\ w'.heap.size = w.heap.size := by
 obtain ⟨e, he⟩ : ∃ e, xs[i]? = some e := ⟨_, List.getElem?_eq_getElem hi⟩
 obtain ⟨q, hq⟩ : ∃ q, xs[j]? = some q := ⟨_, List.getElem?_eq_getElem hj⟩
 obtain ⟨a0, a1, a2, a3⟩ := h.get he
 obtain ⟨b0, b1, b2, b3⟩ := h.get hq
 have H := kH h
 have HS : Hid (swapL xs i j = (xs.set i q).set j e) := kH (by simp only [swapL, getD_eq_getElem?_getD, he, hq, Option.getD_some])
 clear h he hq
 go_enter func308, ntmps308
 go_wp2
 go_region
 all_goals go_wp2
 all_goals
  refine kZ (results_none rfl _ _ _) rfl ?_
  rw [HS.out]
  refine ⟨rfl, ?_, ?_, ?_⟩
  ·have h1 := H.out.sets hi q
   exact (h1.sets (i := j) (by simpa using hj) e).of rfl
  ·exact (((((kU [r] w).setCell (.inl (by simp)) _).setCell (.inl (by simp)) _).setCell (.inl (by simp)) _).setCell (.inl (by simp)) _).drew
  ·simp [World.setCell]
theorem xJX {xs : List (Nat × Nat)} (h : ERow w r xs) (hi : i < xs.length) (hn : xs.length <= n) (hn2 : n <= 1000000) :
  Calls prog 308 #[.slice (some ⟨r, 0, none⟩) n c, .int .i64 i, .int .i64 i] w fun e' w' => e' = .returned (.tuple #[]) /\ ERow w' r xs /\ Only [r] w w' /\ w'.heap.size = w.heap.size := by
 obtain ⟨e, he⟩ : ∃ e, xs[i]? = some e := ⟨_, List.getElem?_eq_getElem hi⟩
 obtain ⟨a0, a1, a2, a3⟩ := h.get he
 have H := kH h
 have HS : Hid (xs = (xs.set i e).set i e) := kH (by
  rw [List.set_set]
  apply ext_getElem?
  intro k
  rw [List.getElem?_set]
  by_cases hk : i = k
  ·subst hk; rw [if_pos rfl, if_pos hi, he]
  ·rw [if_neg hk])
 clear h he
 go_enter func308, ntmps308
 go_wp2
 go_region
 all_goals go_wp2
 all_goals
  refine kZ (results_none rfl _ _ _) rfl ?_
  refine ⟨rfl, ?_, ?_, ?_⟩
  ·have h1 := H.out.sets hi e
   have h2 := (h1.sets (i := i) (by simpa using hi) e)
   rw [<- HS.out] at h2
   exact h2.of rfl
  ·exact (((((kU [r] w).setCell (.inl (by simp)) _).setCell (.inl (by simp)) _).setCell (.inl (by simp)) _).setCell (.inl (by simp)) _).drew
  ·simp [World.setCell]
structure HAt (w : World) (hb r c : Nat) (xs : List (Nat × Nat)) : Prop where
 box : Blk w hb 320 #[.slice (some ⟨r, 0, none⟩) xs.length c]
 row : ERow w r xs
 cap : xs.length <= c
 lim : xs.length <= 65536
theorem HAt.ne {xs : List (Nat × Nat)} (h : HAt w hb r c xs) : hb ≠ r := h.box.ne_ h.row.choose_spec.1 (by decide)
theorem ERow.take {xs : List (Nat × Nat)} (h : ERow w r xs) (k : Nat) : ERow w r (xs.take k) :=
 ⟨h.choose, h.choose_spec.1, fun j e hj => h.choose_spec.2 j e (by
  rw [List.getElem?_take] at hj
  split at hj
  ·exact hj
  ·cases hj)⟩
theorem xE5 (n c : Nat) (A : OA) (w : World) : Calls prog 306 #[.slice A n c] w fun e w' => e = .returned (.int .i64 n) /\ w' = w := by
 go_enter func306, ntmps306
 go_wp2
 go_ret
 exact ⟨rfl, rfl⟩
theorem xCL (A : OA) (n c i : Nat) (h : i <= c) (w : World) : (Instr.slice 320 (.slice A n c) none (some (.int .i64 (i : Int))) none).run prog w = .ok (.slice (if c = 0 then A else A.map (·.add 0)) i c) w := by
 have hsz : ∀ w, (sizeOf (prog.elem 320)).run prog w = .ok 2 w := fun w => by kernel_rfl
 rw [run_slice_h w 320 A n c (by kernel_rfl) .i64 (i : Int) (by omega) (by omega), hsz]
 simp [Result.andThen, sliced]
theorem xMU {xs : List (Nat × Nat)} {e : Nat × Nat} (h : HAt w hb r c (xs ++ [e])) :
  Calls prog 309 #[.pointer (some ⟨hb, 0, none⟩)] w fun e' w' => e' = .returned (.iface 198 (.agg #[.int .i64 (e.1 : Int), .int .i64 (e.2 : Int)])) /\ HAt w' hb r c xs /\ Only [hb] w w' := by
 have H := kH h
 have hc := h.cap
 have hlim := h.lim
 have hne := h.ne
 have q0 : w.cell? ⟨hb, 0, none⟩ = some (.slice (some ⟨r, 0, none⟩) (xs.length + 1) c) := by have := h.box.cell 0; simpa using this
 have q1 : w.frozen? ⟨hb, 0, none⟩ = false := h.box.frozen 0
 have q2 : ∀ o, (w.alloc o).cell? ⟨hb, 0, none⟩ = some (.slice (some ⟨r, 0, none⟩) (xs.length + 1) c) := fun o => (World.cell?_alloc_lt w o _ h.box.lt).trans q0
 have q3 : ∀ o, (w.alloc o).frozen? ⟨hb, 0, none⟩ = false := fun o => (h.box.alloc o).frozen 0
 have hbl := h.box.lt
 obtain ⟨a0, a1, -, -⟩ := h.row.get (k := xs.length) (e := e) (by simp)
 have hsl := fun (w : World) => xCL (some ⟨r, 0, none⟩) (xs.length + 1) c xs.length (by simp at hc; omega) w
 have hadd : (if c = 0 then some (⟨r, 0, none⟩ : Addr) else Option.map (fun x => Addr.add x 0) (some ⟨r, 0, none⟩)) = some ⟨r, 0, none⟩ := by split <;> simp [Addr.add]
 rw [hadd] at hsl
 simp only [kN, length_singleton] at hc hlim
 have hnw : hb ≠ w.heap.size := by omega
 clear h hadd
 go_enter func309, ntmps309
 go_wp2
 go_ret
 have h := H.out
 refine ⟨rfl, ⟨(h.box.set_ 0 _).alloc _, ?_, by omega, by omega⟩, ((kU [hb] w).setCell (.inl (by simp)) _).alloc _⟩
 have h1 := (h.row.take xs.length)
 rw [take_left' rfl] at h1
 have h2 : ERow (w.setCell ⟨hb, 0, none⟩ (.slice (some ⟨r, 0, none⟩) xs.length c)) r xs := h1.of (kE _ _ _ _ (by show r ≠ hb; exact fun e => hne e.symm))
 exact h2.of (kG _ _ _ h2.lt)
def gx (xs : List (Nat × Nat)) (i : Nat) : Nat × Nat := xs.getD i (0, 0)
theorem x0R {xs : List (Nat × Nat)} (h : i < xs.length) : xs[i]? = some (gx xs i) := by
  simp [gx, getD_eq_getElem?_getD, List.getElem?_eq_getElem h]
theorem x68 {xs : List (Nat × Nat)} {e : Nat × Nat} (h : xs[i]? = some e) : gx xs i = e := by
  simp [gx, getD_eq_getElem?_getD, h]
theorem xK2 (xs : List (Nat × Nat)) (i j : Nat) : (swapL xs i j).length = xs.length := by simp [swapL]
theorem x43 {xs : List (Nat × Nat)} (hi : i < xs.length) (hj : j < xs.length) (k : Nat) : gx (swapL xs i j) k = if k = j then gx xs i else if k = i then gx xs j else gx xs k := by
 by_cases h1 : k = j
 ·subst h1
  rw [if_pos rfl]
  refine x68 ?_
  simp only [swapL]
  rw [List.getElem?_set, if_pos rfl, if_pos (by simpa using hj)]
  rfl
 ·rw [if_neg h1]
  by_cases h2 : k = i
  ·subst h2
   rw [if_pos rfl]
   refine x68 ?_
   simp only [swapL]
   rw [List.getElem?_set, if_neg (fun h => h1 h.symm), List.getElem?_set, if_pos rfl, if_pos hi]
   rfl
  ·rw [if_neg h2]
   simp only [gx, swapL, getD_eq_getElem?_getD]
   rw [List.getElem?_set, if_neg (fun h => h1 h.symm), List.getElem?_set, if_neg (fun h => h2 h.symm)]
theorem x3V {xs : List (Nat × Nat)} (hi : i < xs.length) (hj : j < xs.length) : (swapL xs i j).Perm xs := by
 have := List.set_set_perm hi hj
 simp only [swapL, getD_eq_getElem?_getD, List.getElem?_eq_getElem hi, List.getElem?_eq_getElem hj, Option.getD_some]
 exact this
def Kid (i j : Nat) : Prop := j = 2 * i + 1 ∨ j = 2 * i + 2
theorem x66 {a b c : Nat × Nat} (h1 : ¬ Longer b a) (h2 : ¬ Longer c b) : ¬ Longer c a := by
  simp only [Longer] at *; omega
theorem x7B {a b : Nat × Nat} (h : Longer a b) : ¬ Longer b a := by
  simp only [Longer] at *; omega
def HFrom (xs : List (Nat × Nat)) (n k : Nat) : Prop := ∀ i j, Kid i j -> k <= i -> j < n -> ¬ Longer (gx xs j) (gx xs i)
def HBut (xs : List (Nat × Nat)) (n i0 k : Nat) : Prop :=
  (∀ i j, Kid i j -> i0 <= i -> j < n -> i ≠ k -> ¬ Longer (gx xs j) (gx xs i)) /\ (∀ p j, Kid p k -> Kid k j -> i0 <= p -> j < n -> ¬ Longer (gx xs j) (gx xs p))
theorem HFrom.but {xs : List (Nat × Nat)} (h : HFrom xs n (i0 + 1)) : HBut xs n i0 i0 :=
  ⟨fun i j hk hi hj hne => h i j hk (by omega) hj, fun p j hp _ hi _ => by simp only [Kid] at hp; omega⟩
theorem HFrom.half (xs : List (Nat × Nat)) (n : Nat) : HFrom xs n (n / 2) := by
 intro i j hk hi hj
 simp only [Kid] at hk
 omega
theorem HBut.done {xs : List (Nat × Nat)} {n i0 k : Nat} (h : HBut xs n i0 k) (hk : ∀ j, Kid k j -> j < n -> ¬ Longer (gx xs j) (gx xs k)) : HFrom xs n i0 := by
 intro i j hij hi hj
 by_cases he : i = k
 ·subst he; exact hk j hij hj
 ·exact h.1 i j hij hi hj he
theorem HBut.step {xs : List (Nat × Nat)} (h : HBut xs n i0 k) (hn : n <= xs.length) (hkj : Kid k j) (hj : j < n) (hk : i0 <= k) (hl : Longer (gx xs j) (gx xs k)) (hb : ∀ j', Kid k j' -> j' < n -> ¬ Longer (gx xs j') (gx xs j)) : HBut (swapL xs k j) n i0 j := by
 have hlt : k < j := by simp only [Kid] at hkj; omega
 have G := x43 (xs := xs) (i := k) (j := j) (by omega) (by omega)
 constructor
 ·intro i m him hi hm hne
  rw [G m, G i, if_neg hne]
  by_cases h1 : i = k
  ·subst h1
   rw [if_pos rfl]
   by_cases h2 : m = j
   ·rw [if_pos h2]; exact x7B hl
   ·rw [if_neg h2, if_neg (by simp only [Kid] at him; omega)]
    exact hb m him hm
  ·rw [if_neg h1]
   by_cases h2 : m = j
   ·simp only [Kid] at him hkj; omega
   ·rw [if_neg h2]
    by_cases h3 : m = k
    ·subst h3
     rw [if_pos rfl]
     exact h.2 i j him hkj hi hj
    ·rw [if_neg h3]
     exact h.1 i m him hi hm h1
 ·intro p m hp hm hip hmn
  have hpk : p = k := by simp only [Kid] at hp hkj; omega
  subst hpk
  have hmj : m ≠ j := by simp only [Kid] at hm; omega
  have hmp : m ≠ p := by simp only [Kid] at hm; omega
  rw [G m, if_neg hmj, if_neg hmp, G p, if_neg (by omega), if_pos rfl]
  exact h.1 j m hm (by omega) hmn (by omega)
theorem HFrom.top {xs : List (Nat × Nat)} (h : HFrom xs n 0) : ∀ j, j < n -> ¬ Longer (gx xs j) (gx xs 0) := by
 intro j
 induction j using Nat.strongRecOn with
 | _ j ih =>
  intro hj
  by_cases h0 : j = 0
  ·subst h0; simp [Longer]
  ·have hk : Kid ((j - 1) / 2) j := by simp only [Kid]; omega
   exact x66 (ih ((j - 1) / 2) (by omega) (by omega)) (h _ _ hk (by omega) hj)
theorem HFrom.is_top {xs : List (Nat × Nat)} (h : HFrom xs xs.length 0) (h0 : 0 < xs.length) : Top xs (gx xs 0) := by
 refine ⟨mem_of_getElem? (x0R h0), fun q hq => ?_⟩
 obtain ⟨j, hj, rfl⟩ := mem_iff_getElem.1 hq
 have := h.top j hj
 rw [x68 (List.getElem?_eq_getElem hj)] at this
 by_cases he : xs[j] = gx xs 0
 ·exact .inl he
 ·right
  have hne : ¬ (xs[j].1 = (gx xs 0).1 /\ xs[j].2 = (gx xs 0).2) := fun h => he (Prod.ext h.1 h.2)
  simp only [Longer] at *
  omega
theorem HFrom.last {xs : List (Nat × Nat)} (h : HFrom xs (n + 1) 0) (hn : xs.length = n + 1) : HFrom (swapL xs 0 n) n 1 := by
 have G := x43 (xs := xs) (i := 0) (j := n) (by omega) (by omega)
 intro i j hk hi hj
 have hij : i < j := by simp only [Kid] at hk; omega
 rw [G j, G i, if_neg (by omega), if_neg (by omega), if_neg (by omega), if_neg (by omega)]
 exact h i j hk (by omega) (by omega)
theorem HFrom.prefix_ {xs : List (Nat × Nat)} {e : Nat × Nat} (h : HFrom (xs ++ [e]) xs.length 0) : HFrom xs xs.length 0 := by
 intro i j hk hi hj
 have hij : i < j := by simp only [Kid] at hk; omega
 have := h i j hk hi hj
 have hg : ∀ k, k < xs.length -> gx (xs ++ [e]) k = gx xs k := fun k hk => x68 (by rw [List.getElem?_append_left hk]; exact x0R hk)
 rw [hg j hj, hg i (by omega)] at this
 exact this
theorem x6Q (w : World) (g : Nat) (A : OA) (n c : Nat) (h : w.cell? ⟨g, 0, none⟩ = some (.slice A n c)) : (loadVar 320 ⟨g, 0, none⟩).run prog w = .ok (.slice A n c) w := by
  simp [loadVar, h]
theorem xM0 (w : World) (f : Nat) (g : Nat) : (method (f + 1) 322 (.pointer (some ⟨g, 0, none⟩)) "Pop").run prog w = .ok (309, .pointer (some ⟨g, 0, none⟩)) w := by
  kernel_rfl
theorem xPP (w : World) (g : Nat) (s : String) : (Builtin.ssaWrapNilChk_ #[322] 322 #[.pointer (some ⟨g, 0, none⟩), strVal "", strVal s]).run prog w = .ok (.pointer (some ⟨g, 0, none⟩)) w := by
  kernel_rfl
theorem xAO (w : World) (f g : Nat) (v : Value) (s : String) (k : FuncId) (hv : (loadVar 320 ⟨g, 0, none⟩).run prog w = .ok v w)
 (hm : ((prog.info? 322).bind fun i => (i.methods.find? fun m => m.name == s).map fun m => (m.path, m.func)) = some (#[], some (k, false))) :
  (method (f + 1) 322 (.pointer (some ⟨g, 0, none⟩)) s).run prog w = .ok (k, v) w := by
 have hu : prog.underlying 322 = some (.pointer 320) := by kernel_rfl
 cases hi : prog.info? 322 with
 | none => rw [hi] at hm; cases hm
 | some i =>
  rw [hi] at hm
  simp only [Option.bind_some] at hm
  cases h1 : i.methods.find? fun m => m.name == s with
  | none => rw [h1] at hm; cases hm
  | some m =>
   rw [h1] at hm
   simp only [Option.map_some, Option.some.injEq, Prod.mk.injEq] at hm
   obtain ⟨h2, h3⟩ := hm
   unfold method
   simp [typeInfo, hi, h1, h2, h3, follow, receiverAt, run_underlying hu, Place.get, xPP, asAddr, hv]
theorem x4M (w : World) (f g n c : Nat) (A : OA) (h : w.cell? ⟨g, 0, none⟩ = some (.slice A n c)) : (method (f + 1) 322 (.pointer (some ⟨g, 0, none⟩)) "Less").run prog w = .ok (307, .slice A n c) w :=
  xAO w f g _ _ _ (x6Q w g A n c h) (by kernel_rfl)
theorem x4N (w : World) (f g n c : Nat) (A : OA) (h : w.cell? ⟨g, 0, none⟩ = some (.slice A n c)) : (method (f + 1) 322 (.pointer (some ⟨g, 0, none⟩)) "Swap").run prog w = .ok (308, .slice A n c) w :=
  xAO w f g _ _ _ (x6Q w g A n c h) (by kernel_rfl)
theorem xEI (w : World) (f g n c : Nat) (A : OA) (h : w.cell? ⟨g, 0, none⟩ = some (.slice A n c)) : (method (f + 1) 322 (.pointer (some ⟨g, 0, none⟩)) "Len").run prog w = .ok (306, .slice A n c) w :=
  xAO w f g _ _ _ (x6Q w g A n c h) (by kernel_rfl)
theorem HAt.of {xs : List (Nat × Nat)} (h : HAt w hb r c xs) (e1 : w'.heap[hb]? = w.heap[hb]?) (e2 : w'.heap[r]? = w.heap[r]?) : HAt w' hb r c xs :=
  ⟨h.box.of e1, h.row.of e2, h.cap, h.lim⟩
theorem HAt.cell {xs : List (Nat × Nat)} (h : HAt w hb r c xs) : w.cell? ⟨hb, 0, none⟩ = some (.slice (some ⟨r, 0, none⟩) xs.length c) := by
  have := h.box.cell 0; simpa using this
theorem HAt.below {xs : List (Nat × Nat)} (h : HAt w hb r c xs) (b : Below w.heap.size w w') : HAt w' hb r c xs :=
  h.of (b.block hb h.box.lt) (b.block r h.row.lt)
theorem x81 {ys : List (Nat × Nat)} (h : HAt w hb r c ys) (i j m : Nat) (I J : Int) (hi : i < ys.length) (hj : j < ys.length) (hm : ys.length = m) (hI : I = (i : Int)) (hJ : J = (j : Int)) :
  Calls prog 307 #[.slice (some ⟨r, 0, none⟩) m c, .int .i64 I, .int .i64 J] w fun e' w' => e' = .returned (.bool (lgB (gx ys i) (gx ys j))) /\ Below w.heap.size w w' := by
 subst hI hJ hm
 have := h.lim
 exact xM7 h.row _ _ (x0R hi) (x0R hj) hi hj (by omega)
theorem x87 {ys : List (Nat × Nat)} (h : HAt w hb r c ys) (i j m : Nat) (I J : Int) (hij : i ≠ j) (hi : i < ys.length) (hj : j < ys.length) (hm : ys.length = m) (hI : I = (i : Int)) (hJ : J = (j : Int)) :
  Calls prog 308 #[.slice (some ⟨r, 0, none⟩) m c, .int .i64 I, .int .i64 J] w fun e' w' => e' = .returned (.tuple #[]) /\ HAt w' hb r c (swapL ys i j) /\ Only [hb, r] w w' := by
 subst hI hJ hm
 have hl := h.lim
 have hs := kH (xK2 ys i j)
 refine (xN6 (c := c) h.row hij hi hj (kR _) (by omega)).mono ?_
 rintro e w' ⟨rfl, hr, ho, -⟩
 refine ⟨rfl, ⟨?_, hr, by rw [hs.out]; exact h.cap, by rw [hs.out]; exact h.lim⟩, ho.mono (by simp)⟩
 rw [hs.out]
 exact h.box.of (ho.block hb h.box.lt (by simpa using h.ne))
theorem xAW (a : Nat × Nat) : ¬ Longer a a := by simp [Longer]
theorem xA1 {xs : List (Nat × Nat)} (h : HAt w hb r c xs) (hn : n <= xs.length) (hi : i0 <= 65536) (hbut : HBut xs n i0 i0) :
    Calls prog 273 #[.iface 322 (.pointer (some ⟨hb, 0, none⟩)), .int .i64 i0, .int .i64 n] w fun e' w' => (∃ b, e' = .returned (.bool b)) /\ ∃ ys, HAt w' hb r c ys /\ ys.Perm xs /\ HFrom ys n i0 /\ (∀ j, n <= j -> gx ys j = gx xs j) /\ Only [hb, r] w w' := by
  have HH := kH h
  have HB := kH hbut
  have hlim := h.lim
  clear h hbut
  go_enter func273, ntmps273
  go_wp2
  go_loopw [7] (fun i wr => ∃ (k : Nat) (ys : List (Nat × Nat)), i0 <= k /\ k <= 65536 /\ i = .int .i64 k /\ HAt wr hb r c ys /\ ys.Perm xs /\ HBut ys n i0 k /\ (∀ j, n <= j -> gx ys j = gx xs j) /\ Only [hb, r] w wr) (fun i _ => 65537 - (intS i).toNat)
  case atStart => exact ⟨i0, xs, by omega, by omega, rfl, HH.out, List.Perm.refl _, HB.out, fun _ _ => rfl, kU _ _⟩
  case round =>
    obtain ⟨k, ys, hk0, hk, rfl, ha, hp, hbt, hun, ho⟩ := hrel
    obtain ⟨wo, hwo⟩ := kX wr
    subst hwo
    have hlen := hp.length_eq
    have HA := kH ha
    have HO := kH ho
    have HP := kH (kA hp (kA hbt hun))
    clear ha hp hbt hun ho
    have hw1 : IntKind.i64.wrap (2 * (k : Int)) = 2 * (k : Int) := by rw [kI]; omega
    have hw2 : IntKind.i64.wrap (2 * (k : Int) + 1) = 2 * (k : Int) + 1 := by rw [kI]; omega
    have hw3 : IntKind.i64.wrap (2 * (k : Int) + 1 + 1) = 2 * (k : Int) + 1 + 1 := by rw [kI]; omega
    by_cases h1 : 2 * k + 1 < n
    · have hd0 : decide ((n : Int) <= 2 * (k : Int) + 1) = false := decide_eq_false (by omega)
      have hd0' : decide (2 * (k : Int) + 1 < 0) = false := decide_eq_false (by omega)
      by_cases h2 : 2 * k + 2 < n
      · have hd1 : decide (2 * (k : Int) + 1 + 1 < (n : Int)) = true := decide_eq_true (by omega)
        have HL := kH (x81 HA.out (2 * k + 2) (2 * k + 1) xs.length (2 * (k : Int) + 1 + 1) (2 * (k : Int) + 1) (by omega) (by omega) hlen (by omega) (by omega))
        have hm := fun f => x4M wo f hb _ _ _ HA.out.cell
        go_wp2_with fail
        refine HL.out.mono ?_
        rintro e1 w1 ⟨rfl, hb1⟩
        have HA1 : Hid (HAt w1 hb r c ys) := kH (HA.out.below hb1)
        have HO1 : Hid (Only [hb, r] w w1) := kH (HO.out.trans (kO hb1 _) (kF _ _))
        have HLB : Hid (lgB (gx ys (2 * k + 2)) (gx ys (2 * k + 1)) = true ↔ Longer (gx ys (2 * k + 2)) (gx ys (2 * k + 1))) := kH (x7X _ _)
        clear HL hm HA HO hb1
        have HA := HA1
        have HO := HO1
        clear HA1 HO1
        cases hlb0 : lgB (gx ys (2 * k + 2)) (gx ys (2 * k + 1))
        · have HBE : Hid (∀ j', Kid k j' -> j' < n -> ¬ Longer (gx ys j') (gx ys (2 * k + 1))) := kH (fun j' hj' _ => by
            rcases hj' with rfl | rfl
            · exact xAW _
            · intro hh
              have := HLB.out.2 hh
              rw [hlb0] at this
              cases this)
          clear HLB
          have HL := kH (x81 HA.out (2 * k + 1) k xs.length (2 * (k : Int) + 1) (k : Int) (by omega) (by omega) hlen (by omega) (by omega))
          have hm := fun f => x4M w1 f hb _ _ _ HA.out.cell
          go_wp2_with fail
          refine HL.out.mono ?_
          rintro e2 w2 ⟨rfl, hb2⟩
          have HA2 : Hid (HAt w2 hb r c ys) := kH (HA.out.below hb2)
          have HO2 : Hid (Only [hb, r] w w2) := kH (HO.out.trans (kO hb2 _) (kF _ _))
          have HLB : Hid (lgB (gx ys (2 * k + 1)) (gx ys k) = true ↔ Longer (gx ys (2 * k + 1)) (gx ys k)) := kH (x7X _ _)
          clear HL hm HO HA hb2
          cases hlb : lgB (gx ys (2 * k + 1)) (gx ys k)
          · go_wp2
            go_ret
            refine ⟨⟨_, rfl⟩, ys, HA2.out, HP.out.1, HP.out.2.1.done fun j' hk' hj' => x66 (fun hh => ?_) (HBE.out j' hk' hj'), HP.out.2.2, HO2.out⟩
            have := HLB.out.2 hh
            rw [hlb] at this
            cases this
          · have hlg := HLB.out.1 hlb
            have HSW := kH (x87 HA2.out k (2 * k + 1) xs.length (k : Int) (2 * (k : Int) + 1) (by omega) (by omega) (by omega) hlen (by omega) (by omega))
            have HST := kH (HP.out.2.1.step (j := 2 * k + 1) (by omega) (.inl rfl) (by omega) hk0 hlg HBE.out)
            have HPE := kH (x3V (xs := ys) (i := k) (j := 2 * k + 1) (by omega) (by omega))
            have HGX := kH (x43 (xs := ys) (i := k) (j := 2 * k + 1) (by omega) (by omega))
            have hm := fun f => x4N w2 f hb _ _ _ HA2.out.cell
            clear hlg
            go_wp2_with fail
            refine HSW.out.mono ?_
            rintro e3 w3 ⟨rfl, ha3, ho3⟩
            have HA3 := kH ha3
            have HO3 := kH (HO2.out.trans ho3 (kF _ _))
            clear hm HSW ha3 ho3
            go_wp2
            go_roundw
            case rel =>
              refine ⟨2 * k + 1, swapL ys k (2 * k + 1), by omega, by omega, by go_num, HA3.out, HPE.out.trans HP.out.1, HST.out, fun j' hj' => ?_, HO3.out⟩
              rw [HGX.out j', if_neg (show ¬ j' = 2 * k + 1 by omega), if_neg (show ¬ j' = k by omega)]
              exact HP.out.2.2 j' hj'
            case measure => simp [intS]; omega
        · have HBE : Hid (∀ j', Kid k j' -> j' < n -> ¬ Longer (gx ys j') (gx ys (2 * k + 2))) := kH (fun j' hj' _ => by
            rcases hj' with rfl | rfl
            · exact x7B (HLB.out.1 hlb0)
            · exact xAW _)
          clear HLB
          have HL := kH (x81 HA.out (2 * k + 2) k xs.length (2 * (k : Int) + 1 + 1) (k : Int) (by omega) (by omega) hlen (by omega) (by omega))
          have hm := fun f => x4M w1 f hb _ _ _ HA.out.cell
          go_wp2_with fail
          refine HL.out.mono ?_
          rintro e2 w2 ⟨rfl, hb2⟩
          have HA2 : Hid (HAt w2 hb r c ys) := kH (HA.out.below hb2)
          have HO2 : Hid (Only [hb, r] w w2) := kH (HO.out.trans (kO hb2 _) (kF _ _))
          have HLB : Hid (lgB (gx ys (2 * k + 2)) (gx ys k) = true ↔ Longer (gx ys (2 * k + 2)) (gx ys k)) := kH (x7X _ _)
          clear HL hm HO HA hb2
          cases hlb : lgB (gx ys (2 * k + 2)) (gx ys k)
          · go_wp2
            go_ret
            refine ⟨⟨_, rfl⟩, ys, HA2.out, HP.out.1, HP.out.2.1.done fun j' hk' hj' => x66 (fun hh => ?_) (HBE.out j' hk' hj'), HP.out.2.2, HO2.out⟩
            have := HLB.out.2 hh
            rw [hlb] at this
            cases this
          · have hlg := HLB.out.1 hlb
            have HSW := kH (x87 HA2.out k (2 * k + 2) xs.length (k : Int) (2 * (k : Int) + 1 + 1) (by omega) (by omega) (by omega) hlen (by omega) (by omega))
            have HST := kH (HP.out.2.1.step (j := 2 * k + 2) (by omega) (.inr rfl) (by omega) hk0 hlg HBE.out)
            have HPE := kH (x3V (xs := ys) (i := k) (j := 2 * k + 2) (by omega) (by omega))
            have HGX := kH (x43 (xs := ys) (i := k) (j := 2 * k + 2) (by omega) (by omega))
            have hm := fun f => x4N w2 f hb _ _ _ HA2.out.cell
            clear hlg
            go_wp2_with fail
            refine HSW.out.mono ?_
            rintro e3 w3 ⟨rfl, ha3, ho3⟩
            have HA3 := kH ha3
            have HO3 := kH (HO2.out.trans ho3 (kF _ _))
            clear hm HSW ha3 ho3
            go_wp2
            go_roundw
            case rel =>
              refine ⟨2 * k + 2, swapL ys k (2 * k + 2), by omega, by omega, by go_num, HA3.out, HPE.out.trans HP.out.1, HST.out, fun j' hj' => ?_, HO3.out⟩
              rw [HGX.out j', if_neg (show ¬ j' = 2 * k + 2 by omega), if_neg (show ¬ j' = k by omega)]
              exact HP.out.2.2 j' hj'
            case measure => simp [intS]; omega
      · have hd1 : decide (2 * (k : Int) + 1 + 1 < (n : Int)) = false := decide_eq_false (by omega)
        have HBE : Hid (∀ j', Kid k j' -> j' < n -> ¬ Longer (gx ys j') (gx ys (2 * k + 1))) := kH (fun j' hj' hh => by
          rcases hj' with rfl | rfl
          · exact xAW _
          · omega)
        have HL := kH (x81 HA.out (2 * k + 1) k xs.length (2 * (k : Int) + 1) (k : Int) (by omega) (by omega) hlen (by omega) (by omega))
        have hm := fun f => x4M wo f hb _ _ _ HA.out.cell
        go_wp2_with fail
        refine HL.out.mono ?_
        rintro e2 w2 ⟨rfl, hb2⟩
        have HA2 : Hid (HAt w2 hb r c ys) := kH (HA.out.below hb2)
        have HO2 : Hid (Only [hb, r] w w2) := kH (HO.out.trans (kO hb2 _) (kF _ _))
        have HLB : Hid (lgB (gx ys (2 * k + 1)) (gx ys k) = true ↔ Longer (gx ys (2 * k + 1)) (gx ys k)) := kH (x7X _ _)
        clear HL hm HO HA hb2
        cases hlb : lgB (gx ys (2 * k + 1)) (gx ys k)
        · go_wp2
          go_ret
          refine ⟨⟨_, rfl⟩, ys, HA2.out, HP.out.1, HP.out.2.1.done fun j' hk' hj' => x66 (fun hh => ?_) (HBE.out j' hk' hj'), HP.out.2.2, HO2.out⟩
          have := HLB.out.2 hh
          rw [hlb] at this
          cases this
        · have hlg := HLB.out.1 hlb
          have HSW := kH (x87 HA2.out k (2 * k + 1) xs.length (k : Int) (2 * (k : Int) + 1) (by omega) (by omega) (by omega) hlen (by omega) (by omega))
          have HST := kH (HP.out.2.1.step (j := 2 * k + 1) (by omega) (.inl rfl) (by omega) hk0 hlg HBE.out)
          have HPE := kH (x3V (xs := ys) (i := k) (j := 2 * k + 1) (by omega) (by omega))
          have HGX := kH (x43 (xs := ys) (i := k) (j := 2 * k + 1) (by omega) (by omega))
          have hm := fun f => x4N w2 f hb _ _ _ HA2.out.cell
          clear hlg
          go_wp2_with fail
          refine HSW.out.mono ?_
          rintro e3 w3 ⟨rfl, ha3, ho3⟩
          have HA3 := kH ha3
          have HO3 := kH (HO2.out.trans ho3 (kF _ _))
          clear hm HSW ha3 ho3
          go_wp2
          go_roundw
          case rel =>
            refine ⟨2 * k + 1, swapL ys k (2 * k + 1), by omega, by omega, by go_num, HA3.out, HPE.out.trans HP.out.1, HST.out, fun j' hj' => ?_, HO3.out⟩
            rw [HGX.out j', if_neg (show ¬ j' = 2 * k + 1 by omega), if_neg (show ¬ j' = k by omega)]
            exact HP.out.2.2 j' hj'
          case measure => simp [intS]; omega
    · have hd0 : decide ((n : Int) <= 2 * (k : Int) + 1) = true := decide_eq_true (by omega)
      go_wp2
      go_ret
      exact ⟨⟨_, rfl⟩, ys, HA.out, HP.out.1, HP.out.2.1.done fun j' hk' hj' => by simp only [Kid] at hk'; omega, HP.out.2.2, HO.out⟩
theorem xMO {xs : List (Nat × Nat)} (h : HAt w hb r c xs) :
  Calls prog 250 #[.iface 322 (.pointer (some ⟨hb, 0, none⟩))] w fun e' w' => e' = .returned (.tuple #[]) /\ ∃ ys, HAt w' hb r c ys /\ ys.Perm xs /\ HFrom ys ys.length 0 /\ Only [hb, r] w w' := by
 have HH := kH h
 have hlim := h.lim
 have hm := fun f => xEI w f hb _ _ _ h.cell
 clear h
 have hq : (xs.length : Int).tdiv 2 = ((xs.length / 2 : Nat) : Int) := by rw [Int.tdiv_eq_ediv_of_nonneg (by omega)]; omega
 have hw1 : IntKind.i64.wrap (((xs.length / 2 : Nat) : Int)) = ((xs.length / 2 : Nat) : Int) := by rw [kI]; omega
 have hw2 : IntKind.i64.wrap (((xs.length / 2 : Nat) : Int) - 1) = ((xs.length / 2 : Nat) : Int) - 1 := by rw [kI]; omega
 go_enter func250, ntmps250
 go_wp2_with fail
 refine (xE5 _ _ _ _).mono ?_
 rintro e w ⟨rfl, rfl⟩
 clear hm
 go_wp2
 go_loopw [3] (fun i wr => ∃ (k : Nat) (ys : List (Nat × Nat)), k <= 65536 /\ i = .int .i64 ((k : Int) - 1) /\ HAt wr hb r c ys /\ ys.Perm xs /\ HFrom ys xs.length k /\ Only [hb, r] w wr) (fun i _ => (intS i + 1).toNat)
 case atStart => 
  exact ⟨xs.length / 2, xs, by omega, by go_num, HH.out, List.Perm.refl _, HFrom.half _ _, kU _ _⟩
 case round =>
  obtain ⟨k, ys, hk, rfl, ha, hp, hf, ho⟩ := hrel
  have hlen := hp.length_eq
  by_cases h0 : k = 0
  ·subst h0
   have HP := kH (kA ha (kA hp (kA hf ho)))
   clear ha hp hf ho
   go_wp2
   refine kZ (results_none rfl _ _ _) rfl ?_
   exact ⟨rfl, ys, HP.out.1, HP.out.2.1, by rw [hlen]; exact HP.out.2.2.1, HP.out.2.2.2⟩
  ·obtain ⟨j, rfl⟩ : ∃ j, k = j + 1 := ⟨k - 1, by omega⟩
   have HD := kH (xA1 ha (n := xs.length) (by omega) (i0 := j) (by omega) hf.but)
   have HO := kH (kA hp ho)
   clear ha hp hf ho
   have he : ((j + 1 : Nat) : Int) - 1 = (j : Int) := by omega
   rw [he]
   have hwk : IntKind.i64.wrap ((j : Int) - 1) = (j : Int) - 1 := by rw [kI]; omega
   go_wp2_with fail
   refine HD.out.mono ?_
   rintro e2 w2 ⟨⟨b, rfl⟩, ys2, ha2, hp2, hf2, -, ho2⟩
   have HR := kH (kA ha2 (kA (hp2.trans HO.out.1) (kA hf2 (HO.out.2.trans ho2 (kF _ _)))))
   clear HD HO ha2 hp2 hf2 ho2
   go_wp2
   go_roundw
   case rel => exact ⟨j, ys2, by omega, rfl, HR.out⟩
   case measure => simp [intS]
theorem xON {xs : List (Nat × Nat)} (h : HAt w hb r c xs) (hf : HFrom xs xs.length 0) (h0 : 0 < xs.length) :
  Calls prog 251 #[.iface 322 (.pointer (some ⟨hb, 0, none⟩))] w fun e' w' => e' = .returned (.iface 198 (.agg #[.int .i64 ((gx xs 0).1 : Int), .int .i64 ((gx xs 0).2 : Int)])) /\ ∃ ys, HAt w' hb r c ys /\ ys.Perm (xs.erase (gx xs 0)) /\ HFrom ys ys.length 0 /\ Only [hb, r] w w' := by
 obtain ⟨n, hn⟩ : ∃ n, xs.length = n + 1 := ⟨xs.length - 1, by omega⟩
 have HH := kH h
 have hlim := h.lim
 have hm := fun f => xEI w f hb _ _ _ h.cell
 have hm2 := fun f => x4N w f hb _ _ _ h.cell
 have hsw : ∃ ys, HFrom ys n 1 /\ ys.Perm xs /\ gx ys n = gx xs 0 /\ Calls prog 308 #[.slice (some ⟨r, 0, none⟩) (n + 1) c, .int .i64 0, .int .i64 n] w fun e' w' => e' = .returned (.tuple #[]) /\ HAt w' hb r c ys /\ Only [hb, r] w w' := by
  by_cases hz : n = 0
  ·subst hz
   refine ⟨xs, fun i j _ _ hj => by omega, List.Perm.refl _, rfl, ?_⟩
   refine (xJX (c := c) h.row h0 (by omega) (by omega)).mono ?_
   rintro e w' ⟨rfl, hr, ho, -⟩
   exact ⟨rfl, ⟨h.box.of (ho.block hb h.box.lt (by simpa using h.ne)), hr, h.cap, h.lim⟩, ho.mono (by simp)⟩
  ·refine ⟨swapL xs 0 n, HFrom.last (hn ▸ hf) hn, x3V (by omega) (by omega), ?_, x87 h 0 n (n + 1) 0 n (by omega) (by omega) (by omega) hn rfl rfl⟩
   rw [x43 (by omega) (by omega), if_pos rfl]
 obtain ⟨y1, f1, p1, g1, s1⟩ := hsw
 have HS := kH s1
 have HY := kH (kA f1.but (kA p1 g1))
 have hl1 := p1.length_eq
 rw [hn] at hm hm2 hl1 hlim
 clear h hf s1 f1 p1 g1 h0
 have hw : IntKind.i64.wrap ((n : Int) + 1 - 1) = (n : Int) := by rw [kI]; omega
 go_enter func251, ntmps251
 go_wp2_with fail
 refine (xE5 _ _ _ _).mono ?_
 rintro e w ⟨rfl, rfl⟩
 go_wp2_with fail
 refine HS.out.mono ?_
 rintro e w1 ⟨rfl, a1, o1⟩
 have HD := kH (xA1 a1 (n := n) (by omega) (i0 := 0) (by omega) HY.out.1)
 have HO := kH o1
 clear hm hm2 HS a1 o1
 go_wp2_with fail
 refine HD.out.mono ?_
 rintro e2 w2 ⟨⟨b, rfl⟩, y2, a2, p2, f2, u2, o2⟩
 have hl2 := p2.length_eq
 have hsp : y2 = y2.take n ++ [gx xs 0] := by
  have h1 := (take_append_drop n y2).symm
  have h2 : y2.drop n = [gx xs 0] := by
   rw [drop_eq_getElem_cons (by omega), drop_of_length_le (by omega)]
   have := x0R (xs := y2) (i := n) (by omega)
   rw [u2 n (kR _), HY.out.2.2, List.getElem?_eq_getElem (by omega)] at this
   injection this with this
   rw [this]
  rwa [h2] at h1
 have hzl : (y2.take n).length = n := by simp; omega
 have hpz : (y2.take n).Perm (xs.erase (gx xs 0)) := by
  have q := (p2.trans HY.out.2.1)
  rw [hsp] at q
  have q2 := (List.perm_append_comm.trans q).erase (gx xs 0)
  simpa using q2
 have hfz : HFrom (y2.take n) (y2.take n).length 0 := by
  refine HFrom.prefix_ (e := gx xs 0) ?_
  rw [<- hsp, hzl]
  exact f2
 rw [hsp] at a2
 generalize y2.take n = zs at *
 have HPO := kH (xMU a2)
 have HZ := kH (kA hpz (kA hfz (HO.out.trans o2 (kF _ _))))
 have hm3 := fun f => xM0 w2 f hb
 clear HD HO a2 p2 f2 u2 o2 hpz hfz hsp
 go_wp2_with fail
 refine HPO.out.mono ?_
 rintro e3 w3 ⟨rfl, a3, o3⟩
 have HA := kH (kA a3 o3)
 clear HPO a3 o3
 go_wp2
 go_ret
 exact ⟨rfl, zs, HA.out.1, HZ.out.1, HZ.out.2.1, HZ.out.2.2.trans (HA.out.2.mono (by simp)) (kF _ _)⟩
def exV (e : Nat × Nat) : Value := .agg #[.int .i64 (e.1 : Int), .int .i64 (e.2 : Int)]
theorem xMJ {p : Nat} (n : Nat) (e : Nat × Nat) (hp : w.cell? ⟨p, 0, none⟩ = some (.int .i64 (n : Int))) (hpl : p < w.heap.size) :
  Calls prog 253 #[exV e, .pointer (some ⟨p, 0, none⟩)] w fun e' w' => e' = .returned (.bool (decide (n <= e.2))) /\ Below w.heap.size w w' := by
 go_enter func253, ntmps253
 unfold exV
 go_wp2
 go_ret
 exact ⟨rfl, (kB _ _).alloc (kR _) _⟩
def fitsV (p : Nat) : Value := .func (.func 253) #[] #[.pointer (some ⟨p, 0, none⟩)]
def notV (q : Nat) : Value := .func (.func 275) #[] #[.pointer (some ⟨q, 0, none⟩)]
structure Cap (w : World) (p q n : Nat) : Prop where
 num : w.cell? ⟨p, 0, none⟩ = some (.int .i64 (n : Int))
 fn : w.cell? ⟨q, 0, none⟩ = some (fitsV p)
 pl : p < w.heap.size
 ql : q < w.heap.size
theorem Cap.of {p : Nat} (h : Cap w p q n) (hs : w.heap.size <= w'.heap.size) (h1 : w'.heap[p]? = w.heap[p]?) (h2 : w'.heap[q]? = w.heap[q]?) : Cap w' p q n :=
  ⟨by rw [<- h.num]; simp [World.cell?, h1], by rw [<- h.fn]; simp [World.cell?, h2], kL h.pl hs, kL h.ql hs⟩
theorem x9P {p : Nat} (e : Nat × Nat) (h : Cap w p q n) :
  Calls prog 275 #[exV e, .pointer (some ⟨q, 0, none⟩)] w fun e' w' => e' = .returned (.bool (!decide (n <= e.2))) /\ Below w.heap.size w w' := by
 have h1 := h.fn
 have hpl := h.pl
 have hql := h.ql
 have HF := kH (xMJ (w := w.alloc (.cells #[.int .i64 (e.1 : Int), .int .i64 (e.2 : Int)] 198)) n e ((World.cell?_alloc_lt w _ _ h.pl).trans h.num) (by rw [kJ]; omega))
 clear h
 unfold fitsV at h1
 go_enter func275, ntmps275
 unfold exV at HF ⊢
 go_wp2_with fail
 refine HF.out.mono ?_
 rintro e2 w2 ⟨rfl, hb2⟩
 have HB := kH (((kB w.heap.size w).alloc (kR _) (.cells #[.int .i64 (e.1 : Int), .int .i64 (e.2 : Int)] 198)).trans (hb2.mono (by rw [kJ]; omega)))
 clear hb2 HF
 go_wp2
 go_ret
 exact ⟨rfl, HB.out⟩
def cmpE (e q : Nat × Nat) : Int := orI (cmpI (e.2 : Int) (q.2 : Int)) (cmpI (e.1 : Int) (q.1 : Int))
theorem xMI (e q : Nat × Nat) : cmpE e q < 0 ↔ Shorter e q := by
 simp only [cmpE, orI, cmpI, Shorter]
 by_cases h1 : (e.2 : Int) < (q.2 : Int)
 ·simp only [h1, if_true]; simp; omega
 ·by_cases h2 : (q.2 : Int) < (e.2 : Int)
  ·simp only [h1, h2, if_true, if_false]; simp; omega
  ·simp only [h1, h2, if_false, if_true]
   by_cases h3 : (e.1 : Int) < (q.1 : Int)
   ·simp only [h3, if_true]; simp; omega
   ·by_cases h4 : (q.1 : Int) < (e.1 : Int)
    ·simp only [h3, h4, if_true, if_false]; simp; omega
    ·simp only [h3, h4, if_false]; simp; omega
theorem xNW (w : World) (e q : Nat × Nat) :
  Calls prog 277 #[exV e, exV q] w fun e' w' => e' = .returned (.int .i64 (cmpE e q)) /\ Below w.heap.size w w' := by
 go_enter func277, ntmps277
 unfold exV
 go_wp2_with fail
 have b0 : ∀ j u, #[Value.int .i64 (e.1 : Int), .int .i64 (e.2 : Int)][j]? = some u -> ((w.alloc (.cells #[.int .i64 (e.1 : Int), .int .i64 (e.2 : Int)] 198)).alloc (.cells #[.int .i64 (q.1 : Int), .int .i64 (q.2 : Int)] 198)).cell? ⟨w.heap.size, j, none⟩ = some u := fun j u hu => (World.cell?_alloc_lt _ _ _ (by rw [kJ]; show w.heap.size < _; omega)).trans (((kW w 198 _).cell j).trans hu)
 have b1 : ∀ j u, #[Value.int .i64 (q.1 : Int), .int .i64 (q.2 : Int)][j]? = some u -> ((w.alloc (.cells #[.int .i64 (e.1 : Int), .int .i64 (e.2 : Int)] 198)).alloc (.cells #[.int .i64 (q.1 : Int), .int .i64 (q.2 : Int)] 198)).cell? ⟨w.heap.size + 1, j, none⟩ = some u := fun j u hu => by
  have := (kW (w.alloc (.cells #[.int .i64 (e.1 : Int), .int .i64 (e.2 : Int)] 198)) 198 #[Value.int .i64 (q.1 : Int), .int .i64 (q.2 : Int)]).cell j
  rw [kJ] at this
  exact this.trans hu
 have a0 := b0 0 _ rfl
 have a1 := b0 1 _ rfl
 have a2 := b1 0 _ rfl
 have a3 := b1 1 _ rfl
 have hbw : Below w.heap.size w ((w.alloc (.cells #[.int .i64 (e.1 : Int), .int .i64 (e.2 : Int)] 198)).alloc (.cells #[.int .i64 (q.1 : Int), .int .i64 (q.2 : Int)] 198)) := ((kB _ _).alloc (kR _) _).alloc (by rw [kJ]; omega) _
 have hsz : ((w.alloc (.cells #[.int .i64 (e.1 : Int), .int .i64 (e.2 : Int)] 198)).alloc (.cells #[.int .i64 (q.1 : Int), .int .i64 (q.2 : Int)] 198)).heap.size = w.heap.size + 2 := by rw [kJ, kJ]
 generalize hg : w.heap.size = g at *
 have HG := kH hg
 clear hg
 generalize ((w.alloc (.cells #[.int .i64 (e.1 : Int), .int .i64 (e.2 : Int)] 198)).alloc (.cells #[.int .i64 (q.1 : Int), .int .i64 (q.2 : Int)] 198)) = w1 at *
 have HW := kH (kA hbw hsz)
 clear b0 b1 hbw hsz
 refine wp_region_still_tail 10 (by kernel_rfl) (by kernel_rfl) ?_
 simp only [take_succ_cons, take_zero, drop_succ_cons, drop_zero]
 repeat still_step
 still_call (x7S _ _ _)
 repeat still_step
 still_call (x7S _ _ _)
 repeat still_step
 refine wpStill_nil ?_
 change wpList _ _ _ _ _ w1.drew
 have HL : Hid (cmpE e q = orI (cmpI (e.2 : Int) (q.2 : Int)) (cmpI (e.1 : Int) (q.1 : Int))) := kH rfl
 generalize cmpI (e.2 : Int) (q.2 : Int) = ca at *
 generalize cmpI (e.1 : Int) (q.1 : Int) = cb at *
 have hb2 : Below g w w1.drew := HW.out.1.drew
 have hs2 : g <= w1.drew.heap.size := by show g <= w1.heap.size; rw [HW.out.2]; omega
 generalize w1.drew = w2 at *
 clear a0 a1 a2 a3 HW
 have HO := kH (xJ8 ca cb w2.heap.size (w2.alloc (.cells #[.int .i64 ca, .int .i64 cb] 3)) ((kW w2 3 #[.int .i64 ca, .int .i64 cb]).cell 0) ((kW w2 3 #[.int .i64 ca, .int .i64 cb]).cell 1))
 have HB := kH (hb2.alloc hs2 (.cells #[.int .i64 ca, .int .i64 cb] 3))
 clear hb2 hs2
 go_wp2_with fail
 refine HO.out.mono ?_
 rintro e3 w3 ⟨rfl, rfl⟩
 go_wp2
 go_ret
 rw [HL.out, HG.out]
 exact ⟨rfl, HB.out⟩
def Idx (xs : List (Nat × Nat)) (n : Nat) (v : Int) : Prop := (v = -1 /\ ∀ e ∈ xs, n <= e.2) ∨ ∃ k : Nat, v = k /\ k < xs.length /\ (∀ j, j < k -> n <= (gx xs j).2) /\ ¬ n <= (gx xs k).2
theorem xKC {p : Nat} {xs : List (Nat × Nat)} (h : ERow w r xs) (hl : xs.length <= 65536) (hC : Cap w p q n) :
  Calls prog 286 #[.slice (some ⟨r, 0, none⟩) xs.length c, notV q] w fun e' w' => (∃ v, e' = .returned (.int .i64 v) /\ Idx xs n v) /\ Below w.heap.size w w' := by
 have H := kH h
 have HC := kH hC
 have hrl := h.lt
 clear h hC
 go_enter func286, ntmps286
 unfold notV
 go_wp2
 go_loopw [8] (fun i wr => ∃ k : Nat, k <= xs.length /\ i = .int .i64 k /\ (∀ j, j < k -> n <= (gx xs j).2) /\ Below w.heap.size w wr) (fun i _ => xs.length - (intS i).toNat)
 case atStart => exact ⟨0, by omega, rfl, fun j hj => by omega, kB _ _⟩
 case round =>
  obtain ⟨k, hk, rfl, hf, hb⟩ := hrel
  obtain ⟨wo, hwo⟩ := kX wr
  subst hwo
  have HF := kH hf
  have hrow : ERow wo r xs := H.out.of (hb.block r hrl)
  have hcap : Cap wo p q n := HC.out.of hb.size (hb.block p HC.out.pl) (hb.block q HC.out.ql)
  by_cases hlt : k < xs.length
  ·obtain ⟨c0, c1, -, -⟩ := hrow.get (x0R hlt)
   have HN := kH (x9P (gx xs k) hcap)
   have HB := kH hb
   clear hrow hcap hb hf
   have hwk := wK k (by omega)
   unfold exV at HN
   go_wp2_with fail
   refine HN.out.mono ?_
   rintro e2 w2 ⟨rfl, hb2⟩
   have HB2 := kH (HB.out.trans (hb2.mono HB.out.size))
   clear hb2 HN HB c0 c1
   by_cases hfit : n <= (gx xs k).2
   ·have hd : (!decide (n <= (gx xs k).2)) = false := by simp [hfit]
    go_wp2
    go_roundw
    case rel => exact ⟨k + 1, by omega, by go_num, fun j hj => by
     by_cases he : j = k
     ·subst he; exact hfit
     ·exact HF.out j (by omega), HB2.out⟩
    case measure => simp [intS]; omega
   ·have hd : (!decide (n <= (gx xs k).2)) = true := by simp [hfit]
    go_wp2
    go_ret
    exact ⟨⟨_, rfl, .inr ⟨k, rfl, hlt, HF.out, hfit⟩⟩, HB2.out⟩
  ·obtain rfl : k = xs.length := by omega
   have HB := kH hb
   clear hrow hcap hb hf
   go_wp2
   go_ret
   refine ⟨⟨_, rfl, .inl ⟨rfl, fun e he => ?_⟩⟩, HB.out⟩
   obtain ⟨j, hj, rfl⟩ := mem_iff_getElem.1 he
   have := HF.out j hj
   rwa [x68 (List.getElem?_eq_getElem hj)] at this
theorem xDR (r n c i : Nat) (h : i < n) (hc : n <= c) (w : World) : (Instr.slice 135 (.slice (some ⟨r, 0, none⟩) n c) (some (.int .i64 (i : Int))) none none).run prog w = .ok (.slice (some ⟨r, i * 2, none⟩) (n - i) (c - i)) w := by
 have hsz : ∀ w, (sizeOf (prog.elem 135)).run prog w = .ok 2 w := fun w => by kernel_rfl
 rw [run_slice_l w 135 (some ⟨r, 0, none⟩) n c (by kernel_rfl) .i64 (i : Int) (by omega) (by omega), hsz]
 simp only [Result.andThen, sliced, kP]
 rw [if_neg (by omega)]
 by_cases hz : i * 2 = 0 <;> simp [Addr.add, hz]
theorem xCE (w : World) (r o n c : Nat) (hn : 0 < n) (hc : ∀ j, j < n * 2 -> (w.cell? ⟨r, o + j, none⟩).isSome = true) (hf : ∀ j, j < n * 2 -> w.frozen? ⟨r, o + j, none⟩ = false) :
  ∃ vs : List Value, vs.length = n * 2 /\ ∀ ty, (Builtin.clear_ #[135] ty #[.slice (some ⟨r, o, none⟩) n c]).run prog w = .ok (.tuple #[]) (w.setCells r o vs) := by
 have hv : ∀ w, (zeroValue 198).run prog w = .ok (.agg #[.int .i64 0, .int .i64 0]) w := fun w => by kernel_rfl
 have ht : prog.underlying 135 = some (.slice 198) := by kernel_rfl
 have hlen : (Builtin.zeroCells #[Value.int .i64 0, .int .i64 0] n).size = n * 2 := by simp [Builtin.zeroCells]; try omega
 have hone : ∀ v ∈ (Builtin.zeroCells #[Value.int .i64 0, .int .i64 0] n).toList, v.oneCell' = true := by
  intro v hv
  simp [Builtin.zeroCells] at hv
  obtain ⟨j, hj, rfl⟩ := hv
  have : j % 2 = 0 ∨ j % 2 = 1 := by omega
  rcases this with h | h <;> simp [h] <;> rfl
 have hst := run_storeCells_cells (P := prog) r o (Builtin.zeroCells #[Value.int .i64 0, .int .i64 0] n).toList 0 w (by simpa [hlen] using hc) (by simpa [hlen] using hf) hone
 simp only [Nat.add_zero] at hst
 refine ⟨(Builtin.zeroCells #[Value.int .i64 0, .int .i64 0] n).toList, by simpa using hlen, fun ty => ?_⟩
 obtain ⟨m, rfl⟩ : ∃ m, n = m + 1 := ⟨n - 1, by omega⟩
 simp [Builtin.clear_, run_underlying ht, hv, hst, Value.cells]
theorem ERow.cleared {xs : List (Nat × Nat)} (h : ERow w r xs) (i : Nat) (vs : List Value) : ERow (w.setCells r (i * 2) vs) r (xs.take i) := by
 obtain ⟨cs, hb, hc⟩ := h
 obtain ⟨cs', hb', -⟩ := hb.setCells_ vs (i * 2)
 refine ⟨cs', hb', fun k e hk => ?_⟩
 rw [List.getElem?_take] at hk
 split at hk
 ·rename_i hki
  have h0 := hc k e hk
  have c0 := (hb'.cell (k * 2)).symm.trans (World.cell?_setCells_out r vs (i * 2) w ⟨r, k * 2, none⟩ (fun _ _ => .inl (by show k * 2 < i * 2; omega)))
  have c1 := (hb'.cell (k * 2 + 1)).symm.trans (World.cell?_setCells_out r vs (i * 2) w ⟨r, k * 2 + 1, none⟩ (fun _ _ => .inl (by show k * 2 + 1 < i * 2; omega)))
  exact ⟨c0.trans ((hb.cell _).trans h0.1), c1.trans ((hb.cell _).trans h0.2)⟩
 ·cases hk
def fitL (n : Nat) (xs : List (Nat × Nat)) : List (Nat × Nat) := xs.filter fun e => decide (n <= e.2)
theorem xHH {p : Nat} {xs : List (Nat × Nat)} (h : ERow w r xs) (hl : xs.length <= 65536) (hcl : xs.length <= c) (hC : Cap w p q n) (hpr : p ≠ r) (hqr : q ≠ r) :
  Calls prog 274 #[.slice (some ⟨r, 0, none⟩) xs.length c, notV q] w fun e' w' => e' = .returned (.slice (some ⟨r, 0, none⟩) (fitL n xs).length c) /\ ERow w' r (fitL n xs) /\ Only [r] w w' := by
 have H := kH h
 have HC := kH hC
 have hrl := h.lt
 have HI := kH (xKC (c := c) h hl hC)
 clear h hC
 unfold notV at HI ⊢
 go_enter func274, ntmps274
 go_wp2_with fail
 refine HI.out.mono ?_
 rintro e1 w1 ⟨⟨v, rfl, hv⟩, hb1⟩
 clear HI
 have HB1 := kH hb1
 clear hb1
 rcases hv with ⟨rfl, hall⟩ | ⟨k, rfl, hkl, hpre, hbad⟩
 ·have hfl : fitL n xs = xs := filter_eq_self.2 (fun e he => by simpa using hall e he)
  have HF := kH hfl
  clear hall hfl
  go_wp2
  go_ret
  rw [HF.out]
  exact ⟨rfl, H.out.of (HB1.out.block r hrl), kO HB1.out _⟩
 ·have hd : ((k : Int) == -1) = false := by simp
  have hwk := wK k (by omega)
  have hf0 : fitL n (xs.take (k + 1)) = xs.take k := by
   rw [take_add_one, x0R hkl]
   simp only [fitL, List.filter_append, Option.toList_some]
   rw [show List.filter (fun e : Nat × Nat => decide (n <= e.2)) [gx xs k] = [] by simp [hbad], append_nil]
   refine filter_eq_self.2 (fun e he => ?_)
   obtain ⟨j, hj, rfl⟩ := mem_iff_getElem.1 he
   simp only [length_take] at hj
   have := hpre j (by omega)
   rw [x68 (List.getElem?_eq_getElem (by omega))] at this
   simpa using this
  have HF0 := kH hf0
  clear hpre hbad hf0
  go_wp2_with fail
  go_loopw [5, 6] (fun vi vj wr => ∃ (i j : Nat) (ys : List (Nat × Nat)), i < j /\ j <= xs.length /\ vi = .int .i64 i /\ vj = .int .i64 j /\ ys.length = xs.length /\ ys.take i = fitL n (xs.take j) /\ ys.drop j = xs.drop j /\ ERow wr r ys /\ Only [r] w wr) (fun _ vj _ => xs.length - (intS vj).toNat)
  case atStart => exact ⟨k, k + 1, xs, by omega, by omega, rfl, by go_num, rfl, HF0.out.symm, rfl, H.out.of (HB1.out.block r hrl), kO HB1.out _⟩
  case round =>
   obtain ⟨i, j, ys, hij, hj, rfl, rfl, hyl, hyt, hyd, hrow, ho⟩ := hrel
   obtain ⟨wo, hwo⟩ := kX wr
   subst hwo
   have HR := kH hrow
   have HY := kH (kA hyt hyd)
   have HO := kH ho
   have hcap : Cap wo p q n := HC.out.of ho.size (ho.block p HC.out.pl (by simpa using hpr)) (ho.block q HC.out.ql (by simpa using hqr))
   have hrl2 := hrow.lt
   clear hrow hyt hyd ho
   by_cases hlt : j < xs.length
   ·obtain ⟨c0, c1, -, -⟩ := HR.out.get (x0R (xs := ys) (i := j) (by omega))
    have HN := kH (x9P (w := wo.alloc (.cells #[.int .i64 ((gx ys j).1 : Int), .int .i64 ((gx ys j).2 : Int)] 198)) (gx ys j) (hcap.of (by rw [kJ]; omega) (kG _ _ _ hcap.pl) (kG _ _ _ hcap.ql)))
    have hbl := (kW wo 198 #[.int .i64 ((gx ys j).1 : Int), .int .i64 ((gx ys j).2 : Int)])
    have HL := kH hbl
    have HO1 := kH (HO.out.alloc (.cells #[.int .i64 ((gx ys j).1 : Int), .int .i64 ((gx ys j).2 : Int)] 198))
    have HR1 : Hid (ERow (wo.alloc (.cells #[.int .i64 ((gx ys j).1 : Int), .int .i64 ((gx ys j).2 : Int)] 198)) r ys) := kH (HR.out.of (kG _ _ _ hrl2))
    have hgj : gx ys j = gx xs j := by
     have := congrArg (fun l => l[0]?) HY.out.2
     simp only [List.getElem?_drop, Nat.add_zero] at this
     rw [x0R (by omega), x0R hlt] at this
     injection this
    have htj : fitL n (xs.take (j + 1)) = fitL n (xs.take j) ++ fitL n [gx ys j] := by
     rw [take_add_one, x0R hlt, hgj]
     simp [fitL]
    have hdj : ys.drop (j + 1) = xs.drop (j + 1) := by
     have := congrArg (fun l => l.drop 1) HY.out.2
     simpa [drop_drop] using this
    have HT := kH (kA htj hdj)
    have hwj := wK j (by omega)
    have hwi := wK i (by omega)
    clear hgj htj hdj hbl hcap HR
    unfold exV at HN
    go_wp2_with fail
    refine HN.out.mono ?_
    rintro e2 w2 ⟨rfl, hb2⟩
    clear HN c0 c1
    have hsz : wo.heap.size < (wo.alloc (.cells #[.int .i64 ((gx ys j).1 : Int), .int .i64 ((gx ys j).2 : Int)] 198)).heap.size := by rw [kJ]; omega
    have hL2 := HL.out.of (hb2.block _ hsz)
    have HL2 := kH hL2
    have HR2 := kH (HR1.out.of (hb2.block r HR1.out.lt))
    have HO2 := kH (HO1.out.trans (kO hb2 _) (kF _ _))
    clear HL HR1 HO1 hb2 HO hsz
    by_cases hfit : n <= (gx ys j).2
    ·have hd : (!decide (n <= (gx ys j).2)) = false := by simp [hfit]
     obtain ⟨a0, a1, f0, f1⟩ := HR2.out.get (x0R (xs := ys) (i := i) (by omega))
     have b0 := hL2.cell 0
     have b1 := hL2.cell 1
     simp only [List.getElem?_toArray, List.getElem?_cons_zero, List.getElem?_cons_succ] at b0 b1
     clear hL2
     have hset : (ys.set i (gx ys j)).take (i + 1) = ys.take i ++ [gx ys j] := by
      rw [take_add_one, List.getElem?_set_self (by omega)]
      rw [List.take_set, List.set_eq_of_length_le (by simp; omega)]
      rfl
     have hds : (ys.set i (gx ys j)).drop (j + 1) = ys.drop (j + 1) := by
      apply ext_getElem?
      intro m
      simp only [List.getElem?_drop]
      rw [List.getElem?_set_ne (by omega)]
     have HS := kH (kA hset hds)
     clear hset hds
     go_wp2
     go_roundw
     case rel =>
      refine ⟨i + 1, j + 1, ys.set i (gx ys j), by omega, by omega, by go_num, by go_num, by simpa using hyl, ?_, HS.out.2.trans HT.out.2, (HR2.out.sets (by omega) (gx ys j)), ((HO2.out.setCell (.inl (by simp)) _).setCell (.inl (by simp)) _)⟩
      rw [HS.out.1, HT.out.1, <- HY.out.1]
      simp [fitL, hfit]
     case measure => simp [intS]; omega
    ·have hd : (!decide (n <= (gx ys j).2)) = true := by simp [hfit]
     clear hL2
     go_wp2
     go_roundw
     case rel => exact ⟨i, j + 1, ys, by omega, by omega, rfl, by go_num, hyl, by rw [HT.out.1, <- HY.out.1]; simp [fitL, hfit], HT.out.2, HR2.out, HO2.out⟩
     case measure => simp [intS]; omega
   ·obtain rfl : j = xs.length := by omega
    have hsl := fun w => xDR r xs.length c i hij hcl w
    have hcells : ∀ m, m < (xs.length - i) * 2 -> (wo.cell? ⟨r, i * 2 + m, none⟩).isSome = true /\ wo.frozen? ⟨r, i * 2 + m, none⟩ = false := by
     intro m hm
     obtain ⟨g0, g1, g2, g3⟩ := HR.out.get (x0R (xs := ys) (i := i + m / 2) (by omega))
     rcases (by omega : m % 2 = 0 ∨ m % 2 = 1) with h | h
     ·rw [show (i + m / 2) * 2 = i * 2 + m by omega] at g0 g2
      exact ⟨by rw [g0]; rfl, g2⟩
     ·rw [show (i + m / 2) * 2 + 1 = i * 2 + m by omega] at g1 g3
      exact ⟨by rw [g1]; rfl, g3⟩
    obtain ⟨vs, -, hclr⟩ := xCE wo r (i * 2) (xs.length - i) (c - i) (by omega) (fun m hm => (hcells m hm).1) (fun m hm => (hcells m hm).2)
    have hhd := fun w => x4B (some ⟨r, 0, none⟩) xs.length c i (by omega) w
    have hadd : (if c = 0 then some (⟨r, 0, none⟩ : Addr) else Option.map (fun x => Addr.add x 0) (some ⟨r, 0, none⟩)) = some ⟨r, 0, none⟩ := by split <;> simp [Addr.add]
    rw [hadd] at hhd
    have hfx : ys.take i = fitL n xs := by have := HY.out.1; rwa [take_length] at this
    have hfl : (fitL n xs).length = i := by rw [<- hfx]; simp; omega
    have HX := kH (kA hfx hfl)
    have HRC := kH (HR.out.cleared i vs)
    have HOC := kH (HO.out.grown (x0F r vs (i * 2) wo).1 (fun g e => by injection e with e; subst e; exact .inl (by simp)))
    clear hadd hcells hfx hfl hcap
    generalize wo.setCells r (i * 2) vs = w3 at *
    go_wp2
    go_ret
    have hr := HRC.out
    rw [HX.out.1] at hr
    rw [HX.out.2]
    exact ⟨rfl, hr, HOC.out⟩
def Least (zs : List (Nat × Nat)) (k : Nat) (b : Nat × Nat) : Prop := b ∈ zs /\ ∀ j, j < k -> gx zs j = b ∨ Shorter b (gx zs j)
theorem xPK {zs : List (Nat × Nat)} (h : ERow w r zs) (hl : zs.length <= 65536) (h0 : 0 < zs.length) :
  Calls prog 276 #[.slice (some ⟨r, 0, none⟩) zs.length c, .func (.func 277) #[] #[]] w fun e' w' => (∃ b, e' = .returned (exV b) /\ Least zs zs.length b) /\ Below w.heap.size w w' := by
 have H := kH h
 have hrl := h.lt
 have c0 := (h.get (x0R h0)).1
 have c1 := (h.get (x0R h0)).2.1
 simp only [Nat.zero_mul, Nat.zero_add] at c0 c1
 have d0 : (w.alloc (.cells #[.int .i64 0, .int .i64 0] 198)).cell? ⟨r, 0, none⟩ = some (.int .i64 ((gx zs 0).1 : Int)) := (World.cell?_alloc_lt w _ _ hrl).trans c0
 have d1 : (w.alloc (.cells #[.int .i64 0, .int .i64 0] 198)).cell? ⟨r, 1, none⟩ = some (.int .i64 ((gx zs 0).2 : Int)) := (World.cell?_alloc_lt w _ _ hrl).trans c1
 have hg0 : gx zs 0 ∈ zs := mem_of_getElem? (x0R h0)
 clear h c0 c1
 go_enter func276, ntmps276
 go_wp2_with fail
 go_loopw [6] (fun i wr => ∃ (k : Nat) (b : Nat × Nat), 1 <= k /\ k <= zs.length /\ i = .int .i64 k /\ Least zs k b /\ Blk wr w.heap.size 198 #[.int .i64 0, .int .i64 0] /\ Blk wr (w.heap.size + 1) 198 #[.int .i64 (b.1 : Int), .int .i64 (b.2 : Int)] /\ Below w.heap.size w wr) (fun i _ => zs.length - (intS i).toNat)
 case atStart =>
  refine ⟨1, gx zs 0, by omega, by omega, by go_num, ⟨hg0, fun j hj => .inl (by rw [show j = 0 by omega])⟩, ?_, ?_, ?_⟩
  ·exact ((kW w 198 _).alloc _)
  ·have := kW (w.alloc (.cells #[.int .i64 0, .int .i64 0] 198)) 198 #[.int .i64 ((gx zs 0).1 : Int), .int .i64 ((gx zs 0).2 : Int)]
   rw [kJ] at this
   exact this
  ·exact ((kB _ _).alloc (kR _) _).alloc (by rw [kJ]; omega) _
 case round =>
  obtain ⟨k, b, hk1, hk, rfl, hb, hB0, hB1, hbe⟩ := hrel
  obtain ⟨wo, hwo⟩ := kX wr
  subst hwo
  have hrow : ERow wo r zs := H.out.of (hbe.block r hrl)
  have HL := kH hb
  have HB := kH (kA hB0 (kA hB1 hbe))
  have b0 := hB1.cell 0
  have b1 := hB1.cell 1
  simp only [List.getElem?_toArray, List.getElem?_cons_zero, List.getElem?_cons_succ] at b0 b1
  have HRW := kH hrow
  clear hb hB0 hB1 hbe d0 d1 hg0
  by_cases hlt : k < zs.length
  ·obtain ⟨c0, c1, -, -⟩ := hrow.get (x0R hlt)
   clear hrow
   have hwk := wK k (by omega)
   have HC := kH (xNW wo.drew (gx zs k) b)
   unfold exV at HC
   go_wp2_with fail
   refine wp_region_still_tail 6 (by kernel_rfl) (by kernel_rfl) ?_
   simp only [take_succ_cons, take_zero, drop_succ_cons, drop_zero]
   repeat still_step
   refine wpStill_nil ?_
   change wpList _ _ _ _ _ wo.drew
   have hb0 : wo.drew.cell? ⟨w.heap.size + 1, 0, none⟩ = some (.int .i64 (b.1 : Int)) := b0
   have hc0 : wo.drew.cell? ⟨r, k * 2, none⟩ = some (.int .i64 ((gx zs k).1 : Int)) := c0
   have hc1 : wo.drew.cell? ⟨r, k * 2 + 1, none⟩ = some (.int .i64 ((gx zs k).2 : Int)) := c1
   have HBd : Hid (Blk wo.drew w.heap.size 198 #[.int .i64 0, .int .i64 0] /\ Blk wo.drew (w.heap.size + 1) 198 #[.int .i64 (b.1 : Int), .int .i64 (b.2 : Int)] /\ Below w.heap.size w wo.drew /\ ERow wo.drew r zs) := kH ⟨HB.out.1.of rfl, HB.out.2.1.of rfl, HB.out.2.2.drew, HRW.out.of rfl⟩
   clear HB HRW b0 b1 c0 c1 hb0 hc0 hc1
   generalize wo.drew = w2 at *
   go_wp2_with fail
   refine HC.out.mono ?_
   rintro e3 w3 ⟨rfl, hb3⟩
   have HX : Hid (Blk w3 w.heap.size 198 #[.int .i64 0, .int .i64 0] /\ Blk w3 (w.heap.size + 1) 198 #[.int .i64 (b.1 : Int), .int .i64 (b.2 : Int)] /\ Below w.heap.size w w3 /\ ERow w3 r zs) := kH ⟨HBd.out.1.of (hb3.block _ HBd.out.1.lt), HBd.out.2.1.of (hb3.block _ HBd.out.2.1.lt), HBd.out.2.2.1.trans (hb3.mono HBd.out.2.2.1.size), HBd.out.2.2.2.of (hb3.block _ HBd.out.2.2.2.lt)⟩
   clear HBd HC hb3
   have HQ := kH (xMI (gx zs k) b)
   by_cases hs : cmpE (gx zs k) b < 0
   ·have hd : decide (cmpE (gx zs k) b < 0) = true := decide_eq_true hs
    have HSh := kH (HQ.out.1 hs)
    obtain ⟨c0, c1, -, -⟩ := HX.out.2.2.2.get (x0R hlt)
    have b0 := HX.out.2.1.cell 0
    have b1 := HX.out.2.1.cell 1
    simp only [List.getElem?_toArray, List.getElem?_cons_zero, List.getElem?_cons_succ] at b0 b1
    have f0 := HX.out.2.1.frozen 0
    have f1 := HX.out.2.1.frozen 1
    generalize cmpE (gx zs k) b = cv at *
    clear hs
    go_wp2
    go_roundw
    case rel =>
     refine ⟨k + 1, gx zs k, by omega, by omega, by go_num, ⟨mem_of_getElem? (x0R hlt), fun j hj => ?_⟩, ?_, ?_, ?_⟩
     ·by_cases he : j = k
      ·subst he; exact .inl rfl
      ·right
       have h2 := HSh.out
       rcases HL.out.2 j (by omega) with h1 | h1
       ·rw [h1]; exact h2
       ·simp only [Shorter] at h1 h2 ⊢; omega
     ·exact HX.out.1.of ((kE _ _ _ _ (by show w.heap.size ≠ w.heap.size + 1; omega)).trans (kE _ _ _ _ (by show w.heap.size ≠ w.heap.size + 1; omega)))
     ·exact (HX.out.2.1.set_ 0 _).set_ 1 _
     ·exact (HX.out.2.2.1.setCell (by show w.heap.size <= w.heap.size + 1; omega) _).setCell (by show w.heap.size <= w.heap.size + 1; omega) _
    case measure => simp [intS]; omega
   ·have hd : decide (cmpE (gx zs k) b < 0) = false := decide_eq_false hs
    have HSh : Hid (¬ Shorter (gx zs k) b) := kH (fun hh => hs (HQ.out.2 hh))
    generalize cmpE (gx zs k) b = cv at *
    clear hs
    go_wp2
    go_roundw
    case rel =>
     refine ⟨k + 1, b, by omega, by omega, by go_num, ⟨HL.out.1, fun j hj => ?_⟩, HX.out.1, HX.out.2.1, HX.out.2.2.1⟩
     by_cases he : j = k
     ·subst he
      by_cases h1 : gx zs j = b
      ·exact .inl h1
      ·right
       have h2 := HSh.out
       have h3 : ¬ ((gx zs j).1 = b.1 /\ (gx zs j).2 = b.2) := fun h => h1 (Prod.ext h.1 h.2)
       simp only [Shorter] at h2 ⊢; omega
     ·exact HL.out.2 j (by omega)
    case measure => simp [intS]; omega
  ·obtain rfl : k = zs.length := by omega
   have a0 := HB.out.1.frozen 0
   have a1 := HB.out.1.frozen 1
   have a2 := HB.out.1.cell 0
   have a3 := HB.out.1.cell 1
   simp only [List.getElem?_toArray, List.getElem?_cons_zero, List.getElem?_cons_succ] at a2 a3
   clear hrow
   have hia : (prog.info? 198).map (·.size) = some (#[Value.int .i64 (b.1 : Int), .int .i64 (b.2 : Int)]).size := by kernel_rfl
   have hbk : Blk ((wo.setCell ⟨w.heap.size, 0, none⟩ (.int .i64 (b.1 : Int))).setCell ⟨w.heap.size, 1, none⟩ (.int .i64 (b.2 : Int))) w.heap.size 198 #[.int .i64 (b.1 : Int), .int .i64 (b.2 : Int)] := (HB.out.1.set_ 0 _).set_ 1 _
   have HK := kH hbk
   clear hbk
   go_wp2_with fail
   refine bodyPost_ret (results_cell_row rfl _ _ w.heap.size 198 #[.int .i64 (b.1 : Int), .int .i64 (b.2 : Int)] (0, 0) _ rfl HK.out underlying198 rfl hia) rfl ?_
   exact ⟨⟨b, rfl, HL.out⟩, (HB.out.2.2.setCell (kR _) _).setCell (kR _) _⟩
theorem Least.fit {xs : List (Nat × Nat)} {n : Nat} {b : Nat × Nat} (h : Least (fitL n xs) (fitL n xs).length b) : Fit xs n b := by
 have hb := List.mem_filter.1 h.1
 refine ⟨hb.1, by simpa using hb.2, fun q hq hn => ?_⟩
 have hq2 : q ∈ fitL n xs := List.mem_filter.2 ⟨hq, by simpa using hn⟩
 obtain ⟨j, hj, rfl⟩ := mem_iff_getElem.1 hq2
 have := h.2 j hj
 rw [x68 (List.getElem?_eq_getElem hj)] at this
 exact this
theorem xDM {p : Nat} {xs : List (Nat × Nat)} (h : ERow w r xs) (hl : xs.length <= 65536) (hcl : xs.length <= c) (hp : w.cell? ⟨p, 0, none⟩ = some (.int .i64 (n : Int))) (hpl : p < w.heap.size) (hpr : p ≠ r) (hex : ∃ e ∈ xs, n <= e.2) :
  Calls prog 252 #[.slice (some ⟨r, 0, none⟩) xs.length c, fitsV p] w fun e' w' => (∃ b, e' = .returned (exV b) /\ Fit xs n b) /\ Only [r] w w' := by
 have hrl := h.lt
 have hfl : (fitL n xs).length <= xs.length := List.length_filter_le _ _
 have hpos : 0 < (fitL n xs).length := by
  obtain ⟨e, he, hn⟩ := hex
  exact length_pos_of_mem (a := e) (List.mem_filter.2 ⟨he, by simpa using hn⟩)
 have z1 : ((w.alloc (.cells #[fitsV p] 325))).heap.size = w.heap.size + 1 := kJ _ _
 have z2 : ((w.alloc (.cells #[fitsV p] 325)).alloc (.cells #[.int .i64 0, .int .i64 0] 198)).heap.size = w.heap.size + 2 := by rw [kJ, z1]
 have e1 : ERow ((w.alloc (.cells #[fitsV p] 325)).alloc (.cells #[.int .i64 0, .int .i64 0] 198)) r xs := h.of ((kG _ _ _ (by omega)).trans (kG _ _ _ hrl))
 have hq : Blk ((w.alloc (.cells #[fitsV p] 325)).alloc (.cells #[.int .i64 0, .int .i64 0] 198)) w.heap.size 325 #[fitsV p] := (kW w _ _).alloc _
 have hb : Blk ((w.alloc (.cells #[fitsV p] 325)).alloc (.cells #[.int .i64 0, .int .i64 0] 198)) (w.heap.size + 1) 198 #[.int .i64 0, .int .i64 0] := by
  have := kW (w.alloc (.cells #[fitsV p] 325)) 198 #[.int .i64 0, .int .i64 0]
  rwa [z1] at this
 have hc : Cap ((w.alloc (.cells #[fitsV p] 325)).alloc (.cells #[.int .i64 0, .int .i64 0] 198)) p w.heap.size n :=
  ⟨((World.cell?_alloc_lt _ _ _ (by rw [z1]; show p < _; omega)).trans (World.cell?_alloc_lt _ _ _ hpl)).trans hp, hq.cell 0, by rw [z2]; omega, by rw [z2]; omega⟩
 have ho : Below w.heap.size w ((w.alloc (.cells #[fitsV p] 325)).alloc (.cells #[.int .i64 0, .int .i64 0] 198)) := ((kB _ _).alloc (kR _) _).alloc (by rw [z1]; omega) _
 have HD := kH (xHH e1 hl hcl hc hpr (by omega))
 have HX := kH (kA hb (kA ho hpos))
 clear h hp hex z1 z2 e1 hq hb hc ho hpos
 unfold fitsV notV at HD
 unfold fitsV at HX ⊢
 go_enter func252, ntmps252
 go_wp2_with fail
 refine HD.out.mono ?_
 rintro e1 w1 ⟨rfl, hr1, ho1⟩
 have HM := kH (xPK (c := c) hr1 (by omega) HX.out.2.2)
 have hb1 := HX.out.1.of (ho1.block _ HX.out.1.lt (by simp; omega))
 have HB := kH (kA hb1 ((kO HX.out.2.1 [r]).trans ho1 (kF _ _)))
 clear HD hr1 ho1 hb1 HX
 go_wp2_with fail
 refine HM.out.mono ?_
 rintro e2 w2 ⟨⟨b, rfl, hl2⟩, hbe⟩
 have HF := kH hl2.fit
 have hb2 := HB.out.1.of (hbe.block _ HB.out.1.lt)
 have HB2 := kH (kA hb2 (HB.out.2.trans (kO hbe [r]) (kF _ _)))
 have a0 := hb2.frozen 0
 have a1 := hb2.frozen 1
 have a2 := hb2.cell 0
 have a3 := hb2.cell 1
 simp only [List.getElem?_toArray, List.getElem?_cons_zero, List.getElem?_cons_succ] at a2 a3
 have hia : (prog.info? 198).map (·.size) = some (#[Value.int .i64 (b.1 : Int), .int .i64 (b.2 : Int)]).size := by kernel_rfl
 have HK : Hid (Blk ((w2.setCell ⟨w.heap.size + 1, 0, none⟩ (.int .i64 (b.1 : Int))).setCell ⟨w.heap.size + 1, 1, none⟩ (.int .i64 (b.2 : Int))) (w.heap.size + 1) 198 #[.int .i64 (b.1 : Int), .int .i64 (b.2 : Int)]) := kH ((hb2.set_ 0 _).set_ 1 _)
 clear HM hl2 hbe hb2 HB
 unfold exV
 go_wp2_with fail
 refine bodyPost_ret (results_cell_row rfl _ _ (w.heap.size + 1) 198 #[.int .i64 (b.1 : Int), .int .i64 (b.2 : Int)] (0, 0) _ rfl HK.out underlying198 rfl hia) rfl ?_
 exact ⟨⟨b, rfl, HF.out⟩, (HB2.out.2.setCell (.inr (by show w.heap.size <= w.heap.size + 1; omega)) _).setCell (.inr (by show w.heap.size <= w.heap.size + 1; omega)) _⟩
theorem xF4 {v : Value} {xs : List (Nat × Nat)} (h : OwnE w base v (natE xs)) (hne : xs ≠ []) : ∃ r c, v = .slice (some ⟨r, 0, none⟩) xs.length c /\ base <= r /\ xs.length <= c /\ ERow w r xs := by
 have hl : (natE xs).length = xs.length := by simp [natE]
 rcases h.2 with ⟨rfl, h0⟩ | ⟨g, cap, cur, rfl, hb, hh, hn, hm, hs, ht⟩
 ·rw [hl] at h0
  exact absurd (eq_nil_of_length_eq_zero h0) hne
 ·rw [hl] at hn ⊢
  refine ⟨g, cap, rfl, hb, hn, cur, hh, fun k e hk => ?_⟩
  have hk2 : (natE xs)[k]? = some ((e.1 : Int), (e.2 : Int)) := by simp [natE, hk]
  obtain ⟨h1, h2⟩ := xG9 hk2
  rw [<- ht] at h1 h2
  rw [List.getElem?_take] at h1 h2
  constructor
  ·split at h1
   ·simpa using h1
   ·cases h1
  ·split at h2
   ·simpa using h2
   ·cases h2
theorem x4S {a b : List (Nat × Nat)} (h : a.Perm b) : lens a = lens b := (h.map _).sum_nat
theorem xI1 {a : List (Nat × Nat)} {e : Nat × Nat} (h : e ∈ a) : lens a = e.2 + lens (a.erase e) := by
 rw [x4S (List.perm_cons_erase h)]
 simp [lens]
theorem xDZ {a : List (Nat × Nat)} (h : 0 < lens a) : 0 < a.length := by
 cases a with
 | nil => simp [lens] at h
 | cons e a => simp
theorem xF3 (v : Value) (w : World) : Calls prog 213 #[v, .int .i64 0] w fun e' w' => e' = .returned (.slice none 0 0) /\ Below w.heap.size w w' := by
 go_enter func213, ntmps213
 go_wp2
 go_ret
 exact ⟨rfl, (kB _ _).alloc (kR _) _⟩
def slLen : Value -> Nat
 | .slice _ n _ => n
 | _ => 0
structure Mid (w wr : World) (r c : Nat) (v : Value) (m : Nat) (l ys : List (Nat × Nat)) : Prop where
 at_ : HAt wr (w.heap.size + 1) r c ys
 num : Blk wr w.heap.size 3 #[.int .i64 (m : Int)]
 own : OwnE wr (w.heap.size + 2) v (natE l)
 only : Only [r] w wr
 size : w.heap.size + 2 <= wr.heap.size
theorem OwnE.apart {v : Value} {l : List (Int × Int)} (h : OwnE w base v l) (hs : ∀ k, base <= k -> k < w.heap.size -> w'.heap[k]? = w.heap[k]?) : OwnE w' base v l :=
  x06 h fun k hk => hs k (kD h k (x00.1 hk)).1 (kD h k (x00.1 hk)).2
theorem Mid.below {v : Value} {l ys : List (Nat × Nat)} (h : Mid w wr r c v m l ys) (b : Below wr.heap.size wr wx) : Mid w wx r c v m l ys :=
  ⟨h.at_.below b, h.num.of (b.block _ h.num.lt), h.own.apart fun k _ hk => b.block k hk, h.only.trans (kO b _) (kF _ _), kT h.size b.size⟩
theorem Mid.drew {v : Value} {l ys : List (Nat × Nat)} (h : Mid w wr r c v m l ys) : Mid w wr.drew r c v m l ys := h.below (kB _ _).drew
theorem Mid.grown {v v' : Value} {l l' ys : List (Nat × Nat)} (h : Mid w wr r c v m l ys) (hr : r < w.heap.size) (g : wr.grownBy wx v.ownBlock) (o : OwnE wx (w.heap.size + 2) v' (natE l')) : Mid w wx r c v' m l' ys := by
 have hv := kD h.own
 have hk : ∀ k, k < w.heap.size + 2 -> wx.heap[k]? = wr.heap[k]? := fun k hk => g.block k (kL hk h.size) (fun e => by have := (hv k e.symm).1; omega)
 exact ⟨h.at_.of (hk _ (by omega)) (hk _ (by omega)), h.num.of (hk _ (by omega)), o, h.only.grown g (fun k e => .inr (by have := (hv k e).1; omega)), kT h.size g.size⟩
theorem Mid.heap {v : Value} {l ys ys' : List (Nat × Nat)} (h : Mid w wr r c v m l ys) (hr : r < w.heap.size) (o : Only [w.heap.size + 1, r] wr wx) (ha : HAt wx (w.heap.size + 1) r c ys') : Mid w wx r c v m l ys' :=
  ⟨ha, h.num.of (o.block _ h.num.lt (by simp; omega)), h.own.apart fun k hk hk2 => o.block k hk2 (by simp; omega), h.only.trans o (fun k hk => by simp at hk ⊢; rcases hk with rfl | rfl <;> omega), kT h.size o.size⟩
theorem Mid.sets {v : Value} {l ys : List (Nat × Nat)} (h : Mid w wr r c v m l ys) (hr : r < w.heap.size) (m' : Nat) : Mid w (wr.setCell ⟨w.heap.size, 0, none⟩ (.int .i64 (m' : Int))) r c v m' l ys := by
 have hk : ∀ k, k ≠ w.heap.size -> (wr.setCell ⟨w.heap.size, 0, none⟩ (.int .i64 (m' : Int))).heap[k]? = wr.heap[k]? := fun k hk => kE _ _ _ _ hk
 exact ⟨h.at_.of (hk _ (by omega)) (hk _ (by omega)), h.num.set_ 0 _, h.own.apart fun k h1 _ => hk k (by omega), h.only.setCell (.inr (kR _)) _, by rw [show (wr.setCell ⟨w.heap.size, 0, none⟩ (.int .i64 (m' : Int))).heap.size = wr.heap.size by simp [World.setCell]]; exact h.size⟩
structure Way (n : Nat) (xs : List (Nat × Nat)) (m : Nat) (l ys : List (Nat × Nat)) : Prop where
 from_ : HFrom ys ys.length 0
 pos : 0 < m
 less : m <= n
 room : m <= lens ys
 len : l.length + ys.length = xs.length
 inv : ∀ rest, Chosen ys m rest -> Chosen xs n (l ++ rest)
theorem Way.step {xs l ys ys' : List (Nat × Nat)} (h : Way n xs m l ys) (hlt : (gx ys 0).2 < m) (hp : ys'.Perm (ys.erase (gx ys 0))) (hf : HFrom ys' ys'.length 0) : Way n xs (m - (gx ys 0).2) (l ++ [gx ys 0]) ys' := by
 have hyp : 0 < ys.length := xDZ (kL h.pos h.room)
 have ht := h.from_.is_top hyp
 have h1 := xI1 ht.1
 have h2 := x4S hp
 have h3 := hp.length_eq
 have h4 := List.length_erase_of_mem ht.1
 have h5 := h.room
 have h6 := h.len
 have h7 := h.less
 refine ⟨hf, by omega, by omega, by omega, by simp; omega, fun rest hr => ?_⟩
 rw [append_assoc]
 exact h.inv _ (.long ht hlt (hr.perm hp))
theorem xHY {xs : List (Nat × Nat)} (h : ERow w r xs) (hl : xs.length <= 65536) (hcl : xs.length <= c) (h0 : 0 < n) (hn : n <= lens xs) (hn2 : n <= 65536) :
  Calls prog 213 #[.slice (some ⟨r, 0, none⟩) xs.length c, .int .i64 n] w fun e' w' => ∃ v out, e' = .returned v /\ OwnE w' w.heap.size v (natE out) /\ Chosen xs n out /\ Only [r] w w' := by
 have hrl := h.lt
 have z1 : ((w.alloc (.cells #[.int .i64 (n : Int)] 3))).heap.size = w.heap.size + 1 := kJ _ _
 have z2 : ((w.alloc (.cells #[.int .i64 (n : Int)] 3)).alloc (.cells #[.slice (some ⟨r, 0, none⟩) xs.length c] 320)).heap.size = w.heap.size + 2 := by rw [kJ, z1]
 have e1 : ERow ((w.alloc (.cells #[.int .i64 (n : Int)] 3)).alloc (.cells #[.slice (some ⟨r, 0, none⟩) xs.length c] 320)) r xs := h.of ((kG _ _ _ (by omega)).trans (kG _ _ _ hrl))
 have hb : Blk ((w.alloc (.cells #[.int .i64 (n : Int)] 3)).alloc (.cells #[.slice (some ⟨r, 0, none⟩) xs.length c] 320)) (w.heap.size + 1) 320 #[.slice (some ⟨r, 0, none⟩) xs.length c] := by
  have := kW (w.alloc (.cells #[.int .i64 (n : Int)] 3)) 320 #[.slice (some ⟨r, 0, none⟩) xs.length c]
  rwa [z1] at this
 have hnb : Blk ((w.alloc (.cells #[.int .i64 (n : Int)] 3)).alloc (.cells #[.slice (some ⟨r, 0, none⟩) xs.length c] 320)) w.heap.size 3 #[.int .i64 (n : Int)] := (kW w _ _).alloc _
 have ho : Below w.heap.size w ((w.alloc (.cells #[.int .i64 (n : Int)] 3)).alloc (.cells #[.slice (some ⟨r, 0, none⟩) xs.length c] 320)) := ((kB _ _).alloc (kR _) _).alloc (by rw [z1]; omega) _
 have hat : HAt ((w.alloc (.cells #[.int .i64 (n : Int)] 3)).alloc (.cells #[.slice (some ⟨r, 0, none⟩) xs.length c] 320)) (w.heap.size + 1) r c xs := ⟨hb, e1, hcl, hl⟩
 have HI := kH (xMO hat)
 have HX := kH (kA hnb (kA ho z2))
 have hd0 : ((n : Int) == 0) = false := by simp; omega
 clear h z1 z2 e1 hb hnb ho hat
 go_enter func213, ntmps213
 go_wp2_with fail
 refine HI.out.mono ?_
 rintro e1 w1 ⟨rfl, ys1, ha1, hp1, hf1, ho1⟩
 have hnb1 := HX.out.1.of (ho1.block _ HX.out.1.lt (by simp; omega))
 have hw1 : Only [r] w w1 := (kO HX.out.2.1 [r]).trans ho1 (fun k hk => by simp at hk ⊢; rcases hk with rfl | rfl <;> omega)
 have HS := kH (kA ha1 (kA hp1 (kA hf1 (kA hnb1 hw1))))
 clear HI HX ha1 hp1 hf1 ho1 hnb1 hw1
 go_wp2_with fail
 go_loopw [5] (fun v wr => ∃ (m : Nat) (l ys : List (Nat × Nat)), Mid w wr r c v m l ys /\ Way n xs m l ys) (fun v _ => xs.length + 1 - slLen v)
 case atStart =>
  have hx := HS.out
  exact ⟨n, [], ys1, ⟨hx.1, hx.2.2.2.1, OwnE.nil _ _, hx.2.2.2.2, by have := hx.1.box.lt; omega⟩, ⟨hx.2.2.1, h0, kR _, by rw [x4S hx.2.1]; exact hn, by simp [hx.2.1.length_eq], fun rest hr => hr.perm hx.2.1⟩⟩
 case round =>
  obtain ⟨m, l, ys, hm, hy⟩ := hrel
  obtain ⟨wo, hwo⟩ := kX wr
  subst hwo
  have HM := kH hm
  have HY := kH hy
  have hlen := hy.len
  have hm0 := hy.pos
  have hmn := hy.less
  have hyp : 0 < ys.length := xDZ (kL hy.pos hy.room)
  obtain ⟨A1, cap, rfl, hA1⟩ := hm.own.form
  have hnl : (natE l).length = l.length := by simp [natE]
  rw [hnl] at HM ⊢
  have q0 := hm.num.cell 0
  have q1 := hm.at_.cell
  obtain ⟨c0, c1, -, -⟩ := hm.at_.row.get (x0R hyp)
  simp only [List.getElem?_toArray, List.getElem?_cons_zero, Nat.zero_mul, Nat.zero_add] at q0 c0 c1
  clear hm hA1 hnl hy HS
  by_cases hlt : (gx ys 0).2 < m
  ·have hd : decide (((gx ys 0).2 : Int) < (m : Int)) = true := decide_eq_true (by omega)
   have HMd := kH HM.out.drew
   have HP := kH (xON HMd.out.at_ HY.out.from_ hyp)
   have hws : IntKind.i64.wrap ((m : Int) - ((gx ys 0).2 : Int)) = ((m - (gx ys 0).2 : Nat) : Int) := by rw [kI]; omega
   clear HM
   go_wp2_with fail
   go_region
   all_goals
    clear q0 q1 c0 c1
    generalize wo.drew = w1 at *
    go_wp2_with fail
    refine HP.out.mono ?_
    rintro e2 w2 ⟨rfl, ys2, ha2, hp2, hf2, ho2⟩
    have HM2 := kH (HMd.out.heap hrl ho2 ha2)
    have HW := kH (HY.out.step hlt hp2 hf2)
    have hsz2 := HM2.out.size
    have HM4 := kH (HM2.out.below (((kB _ _).alloc (kR _) (.cells #[.int .i64 ((gx ys 0).1 : Int), .int .i64 ((gx ys 0).2 : Int)] 198)).alloc (by rw [kJ]; omega) (.cells (ext1 (((gx ys 0).1 : Int), ((gx ys 0).2 : Int))).toArray 198)))
    have hex := x41 (w2.alloc (.cells #[.int .i64 ((gx ys 0).1 : Int), .int .i64 ((gx ys 0).2 : Int)] 198)) (((gx ys 0).1 : Int), ((gx ys 0).2 : Int))
    rw [kJ] at hex
    have hB7 : Blk ((w2.alloc (.cells #[.int .i64 ((gx ys 0).1 : Int), .int .i64 ((gx ys 0).2 : Int)] 198)).alloc (.cells (ext1 (((gx ys 0).1 : Int), ((gx ys 0).2 : Int))).toArray 198)) w2.heap.size 198 #[.int .i64 ((gx ys 0).1 : Int), .int .i64 ((gx ys 0).2 : Int)] := (kW w2 _ _).alloc _
    have hv2 : ∀ k, (Value.slice A1 l.length cap).ownBlock = some k -> k < w2.heap.size := fun k hk => (kD HM2.out.own k hk).2
    have HE := kH (kA hex (kA hB7 hv2))
    have hta : ∀ w, (Instr.typeAssert (.iface 198 (.agg #[.int .i64 ((gx ys 0).1 : Int), .int .i64 ((gx ys 0).2 : Int)])) 20 198 false).run prog w = .ok (.agg #[.int .i64 ((gx ys 0).1 : Int), .int .i64 ((gx ys 0).2 : Int)]) w := fun w => by kernel_rfl
    have hbe := x2F (((gx ys 0).1 : Int), ((gx ys 0).2 : Int))
    clear HP HMd ha2 hp2 hf2 ho2 hex hB7 hv2
    go_wp2_with (refine x88 (.tmp 23) (.tmp 25) rfl rfl (w.heap.size + 2) (.slice A1 l.length cap) (natE l) rfl HM4.out.own (w2.heap.size + 1 + 1) _ 1 1 [(((gx ys 0).1 : Int), ((gx ys 0).2 : Int))] rfl rfl HE.out.1 (by simp [natE]; omega) (by rw [kJ, kJ]; omega) ?_; intro v5 w5 h5 g5 a5; have hm5 : Mid w w5 r c v5 m (l ++ [gx ys 0]) ys2 := HM4.out.grown hrl g5 (by simpa [natE] using h5); have q5 : w5.cell? ⟨w.heap.size, 0, none⟩ = some (.int .i64 (m : Int)) := hm5.num.cell 0; have f5 : w5.frozen? ⟨w.heap.size, 0, none⟩ = false := hm5.num.frozen 0; have b7 : Blk w5 w2.heap.size 198 #[.int .i64 ((gx ys 0).1 : Int), .int .i64 ((gx ys 0).2 : Int)] := HE.out.2.1.of (g5.block _ (by rw [kJ, kJ]; omega) (fun e => by have := HE.out.2.2 _ e.symm; omega)); have q7 : w5.cell? ⟨w2.heap.size, 1, none⟩ = some (.int .i64 ((gx ys 0).2 : Int)) := b7.cell 1; have HM5 := kH hm5; clear hm5 h5 g5 a5 b7)
    obtain ⟨A6, cap6, rfl, -⟩ := HM5.out.own.form
    have HM6 := kH (HM5.out.sets hrl (m - (gx ys 0).2))
    go_roundw
    case rel => exact ⟨_, _, _, HM6.out, HW.out⟩
    case measure =>
     simp only [slLen, natE, length_map, kN, length_singleton]
     omega
  ·have hd : decide (((gx ys 0).2 : Int) < (m : Int)) = false := decide_eq_false (by omega)
   have HMd := kH HM.out.drew
   have HSH := kH (xDM (n := m) HMd.out.at_.row HMd.out.at_.lim HMd.out.at_.cap (HMd.out.num.cell 0) HMd.out.num.lt (by omega) ⟨gx ys 0, (HY.out.from_.is_top hyp).1, by omega⟩)
   unfold fitsV at HSH
   have r1 : wo.drew.cell? ⟨w.heap.size + 1, 0, none⟩ = some (.slice (some ⟨r, 0, none⟩) ys.length c) := q1
   clear HM
   go_wp2_with fail
   go_region
   all_goals
    clear q0 q1 c0 c1
    generalize wo.drew = w1 at *
    go_wp2_with fail
    refine HSH.out.mono ?_
    rintro e2 w2 ⟨⟨b, rfl, hfit⟩, ho2⟩
    have hlim := HMd.out.at_.lim
    have ha2 : HAt w1 (w.heap.size + 1) r c ys := HMd.out.at_
    have HB2 := kH (HMd.out.num.of (ho2.block _ HMd.out.num.lt (by simp; omega)))
    have HO2 := kH (HMd.out.own.apart (w' := w2) fun k hk hk2 => ho2.block k hk2 (by simp; omega))
    have HW2 := kH (HMd.out.only.trans ho2 (kF _ _))
    have HF := kH (HY.out.inv _ (.fit hm0 hfit))
    have hsz2 := kT HMd.out.size ho2.size
    have q2 : w2.cell? ⟨w.heap.size, 0, none⟩ = some (.int .i64 (m : Int)) := HB2.out.cell 0
    unfold exV
    have hbe := x2F ((b.1 : Int), (m : Int))
    have hq2 : ∀ o, (w2.alloc o).cell? ⟨w.heap.size, 0, none⟩ = some (.int .i64 (m : Int)) := fun o => (World.cell?_alloc_lt _ _ _ HB2.out.lt).trans q2
    have hex := x41 (w2.alloc (.cells #[.int .i64 (b.1 : Int), .int .i64 (b.2 : Int)] 198)) ((b.1 : Int), (m : Int))
    rw [kJ] at hex
    have ho4 : OwnE ((w2.alloc (.cells #[.int .i64 (b.1 : Int), .int .i64 (b.2 : Int)] 198)).alloc (.cells (ext1 ((b.1 : Int), (m : Int))).toArray 198)) (w.heap.size + 2) (.slice A1 l.length cap) (natE l) := HO2.out.apart fun k _ hk => (kG _ _ _ (by rw [kJ]; omega)).trans (kG _ _ _ hk)
    have hw4 : Only [r] w ((w2.alloc (.cells #[.int .i64 (b.1 : Int), .int .i64 (b.2 : Int)] 198)).alloc (.cells (ext1 ((b.1 : Int), (m : Int))).toArray 198)) := (HW2.out.alloc _).alloc _
    have HE := kH (kA hex (kA ho4 hw4))
    clear HMd HSH r1 hfit ho2 ha2 hex ho4 hw4
    go_wp2_with (refine x88 (.tmp 34) (.tmp 39) rfl rfl (w.heap.size + 2) (.slice A1 l.length cap) (natE l) rfl HE.out.2.1 (w2.heap.size + 1 + 1) _ 1 1 [((b.1 : Int), (m : Int))] rfl rfl HE.out.1 (by simp [natE]; omega) (by rw [kJ, kJ]; omega) ?_; intro v5 w5 h5 g5 a5)
    have ho5 : Only [r] w w5 := HE.out.2.2.grown g5 (fun k e => .inr (by have := (kD HO2.out k e).1; omega))
    go_ret
    exact ⟨v5, l ++ [(b.1, m)], rfl, OwnE.weaken (base := w.heap.size + 2) (by simpa [natE] using h5) (by omega), HF.out, ho5⟩
theorem x2E {L : List (Nat × Nat)} (h : ∀ e ∈ L, 1 <= e.2) : L.length <= lens L := by
 induction L with
 | nil => simp
 | cons e L ih =>
  have h1 := h e (mem_cons_self ..)
  have h2 := ih (fun q hq => h q (kM _ hq))
  simp only [lens, map_cons, sum_cons, length_cons] at h2 ⊢
  omega
theorem xGE (fl : List Bool) : (hol 0 fl).length <= cnt fl := by
 rw [<- xE2 fl 0]
 exact x2E fun e he => (x85 fl 0 e.1 e.2 he).2.1
def TakeTo (w : World) (g r c : Nat) (A : OA) (fl : List Bool) (n : Int) (e : Ending) (w' : World) : Prop :=
  Only [g, r] w w' ∧
  ((n < 0 /\ e = .returned (.tuple #[.slice none 0 0, errV 1]) /\ SAt w' g r A c fl (cnt fl)) ∨
   ((cnt fl : Int) < n /\ e = .returned (.tuple #[.slice none 0 0, errV 4]) /\ SAt w' g r A c fl (cnt fl)) ∨
   (∃ (k : Nat) (v : Value) (out : List (Nat × Nat)), n = (k : Int) /\ k <= cnt fl /\ e = .returned (.tuple #[v, .nilIface]) /\ OwnE w' w.heap.size v (natE out) /\ Chosen (hol 0 fl) k out /\ SAt w' g r A c (setA fl out false) (cnt (setA fl out false))))
theorem xBJ (n : Int) (h : SAt w g r A c fl (cnt fl)) (hgr : g ≠ r) :
    Calls prog 176 #[.pointer (some ⟨g, 0, none⟩), .int .i64 n] w (TakeTo w g r c A fl n) := by
  have HH := kH h
  have HFR := kH (xIP h.blk)
  have HHO := kH (xI7 h)
  have hlim := h.lim
  have hgl := h.blk.lt
  clear h
  by_cases hneg : n < 0
  · have hd : decide (n < 0) = true := decide_eq_true hneg
    go_enter func176, ntmps176
    go_wp2
    go_ret2
    exact ⟨kU _ _, .inl ⟨hneg, rfl, HH.out⟩⟩
  · have hd : decide (n < 0) = false := decide_eq_false hneg
    by_cases hbig : (cnt fl : Int) < n
    · have hd2 : decide ((cnt fl : Int) < n) = true := decide_eq_true hbig
      go_enter func176, ntmps176
      go_wp2_with fail
      refine HFR.out.mono ?_
      rintro e w ⟨rfl, rfl⟩
      go_wp2
      go_ret2
      exact ⟨kU _ _, .inr (.inl ⟨hbig, rfl, HH.out⟩)⟩
    · have hd2 : decide ((cnt fl : Int) < n) = false := decide_eq_false hbig
      obtain ⟨k, rfl⟩ : ∃ k : Nat, n = (k : Int) := ⟨n.toNat, by omega⟩
      have hk : k <= cnt fl := by omega
      have hcl := x7E fl
      have hfew := xGE fl
      have hll : lens (hol 0 fl) = cnt fl := xE2 fl 0
      have HL := kH hll
      clear hll
      go_enter func176, ntmps176
      go_wp2_with fail
      refine HFR.out.mono ?_
      rintro e w ⟨rfl, rfl⟩
      go_wp2_with fail
      refine HHO.out.mono ?_
      rintro e1 w1 ⟨v1, rfl, ho1, hb1⟩
      have hs1 := HH.out.of (hb1.block g hgl) (fun _ _ hx => hb1.block r hx.lt)
      have HS1 := kH hs1
      have HB1 := kH (kA ho1 hb1)
      have hcall : Calls prog 213 #[v1, .int .i64 k] w1 fun e' w' => ∃ v out, e' = .returned v /\ OwnE w' w.heap.size v (natE out) /\ Chosen (hol 0 fl) k out /\ Below w.heap.size w w' /\ (k = 0 -> v = .slice none 0 0 /\ out = []) := by
        by_cases hk0 : k = 0
        · subst hk0
          refine (xF3 v1 w1).mono ?_
          rintro e' w' ⟨rfl, hb⟩
          exact ⟨_, [], rfl, OwnE.nil _ _, .none _, hb1.trans (hb.mono hb1.size), fun _ => ⟨rfl, rfl⟩⟩
        · have hne : hol 0 fl ≠ [] := fun h => by rw [h] at HL; have := HL.out; simp [lens] at this; omega
          obtain ⟨r1, c1, rfl, hr1, hc1, hrow⟩ := xF4 ho1 hne
          refine (xHY hrow (by omega) hc1 (by omega) (by rw [HL.out]; exact hk) (by omega)).mono ?_
          rintro e' w' ⟨v, out, rfl, ho, hch, hon⟩
          exact ⟨v, out, rfl, ho.weaken hb1.size, hch, hb1.trans (hon.below (fun j hj => by simp at hj; omega) (hb1.size)), fun h => absurd h hk0⟩
      have HC := kH hcall
      clear hcall hs1 ho1 hb1
      go_wp2_with fail
      refine HC.out.mono ?_
      rintro e2 w2 ⟨v, out, rfl, ho, hch, hb, hz⟩
      have hrr : r < w.heap.size ∨ k = 0 := by
        rcases HH.out.row with h2 | ⟨_, cs, h2, _⟩
        · exact .inr (by have h0 : cnt fl = 0 := by rw [h2]; rfl
                         omega)
        · exact .inl h2.lt
      have hs2 : SAt w2 g r A c fl (cnt fl) := HH.out.of (hb.block g hgl) (fun _ _ hx => hb.block r hx.lt)
      obtain ⟨A2, c2, rfl, hA2⟩ := ho.form
      have hok := (hch.ok (x4R fl)).1
      have hol : (natE out).length = out.length := by simp [natE]
      have hfw := hch.few.1
      rw [hol] at ho hz ⊢
      have hExt : ExtR w2 w2.heap.size A2 (natE out) := by
        have := ho
        rw [<- hol] at this
        exact OwnE.ext this
      have hfar : ∀ ad, A2 = some ad -> ad.block ≠ g /\ ad.block ≠ r := by
        intro ad e
        subst e
        have h1 := (hA2 ad rfl).1
        refine ⟨by omega, ?_⟩
        rcases hrr with h2 | h2
        · omega
        · have := (hz h2).1
          injection this with h3
          cases h3
      have HSE := kH (x96 out false hok hs2 hgr A2 c2 hExt (kR _) hfar (by omega))
      have HX := kH (kA ho (kA hch hb))
      clear HC hs2 hA2 hok hfw hol hExt hfar ho hch hb HS1 HB1 HHO HFR
      go_wp2_with fail
      refine HSE.out.mono ?_
      rintro e3 w3 ⟨rfl, ho3, hs3⟩
      have hown : OwnE w3 w.heap.size (.slice A2 out.length c2) (natE out) := by
        rcases hrr with h2 | h2
        · exact HX.out.1.apart fun j hj hj2 => ho3.block j hj2 (by simp; omega)
        · obtain ⟨h3, h4⟩ := hz h2
          rw [h3, h4]
          exact OwnE.nil _ _
      have HY := kH (kA hown (kA hs3 ((kO HX.out.2.2 [g, r]).trans ho3 (kF _ _))))
      clear HSE ho3 hs3 hown
      go_wp2
      go_ret2
      exact ⟨HY.out.2.2, .inr (.inr ⟨k, _, out, rfl, hk, rfl, HY.out.1, HX.out.2.1, HY.out.2.1⟩)⟩
section
open Go.RowKit Go.ChangeMaps Go.WideElems Go.MapKept
abbrev Key := List UInt8
abbrev KV := List (Key × Value)
def heldR (v : Value) : Option (DataW Value × List MemPlace) := some (.held v, [])
def encKV (p : Key × Value) : Lit × DataW Value := (.string p.1, .held p.2)
def keyV (k : Key) : Value := .string ⟨k.toArray⟩
def aget (l : KV) (k : Key) : Option Value := (l.find? fun p => p.1 == k).map (·.2)
def ains (x : Key × Value) : KV -> KV
 | [] => [x]
 | y :: r => if bytesBefore x.1 y.1 then x :: y :: r else y :: ains x r
def adel (k : Key) (l : KV) : KV := l.filter fun p => !(p.1 == k)
def aput (k : Key) (v : Value) (l : KV) : KV := ains (k, v) (adel k l)
theorem xDD (x : Key × Value) : ∀ l : KV, (ains x l).map encKV = DataW.insert (encKV x) (l.map encKV)
 | [] => rfl
 | y :: r => by
  have ih := xDD x r
  simp only [ains, map_cons, DataW.insert]
  have e : (encKV x).1.before (encKV y).1 = bytesBefore x.1 y.1 := rfl
  rw [e]
  split
  ·rfl
  ·rw [map_cons, ih]
theorem xEG (k : Key) (l : KV) : (adel k l).map encKV = delKey (.string k) (l.map encKV) := by
 unfold adel delKey
 rw [List.filter_map]
 rfl
theorem xMX (k : Key) (v : Value) (l : KV) : (aput k v l).map encKV = putKey (.string k) (.held v) (l.map encKV) := by
 unfold aput
 rw [xDD, xEG]
 rfl
theorem x6D (l : KV) (k : Key) (zd : DataW Value) : (DataW.map (l.map encKV)).atKey (.string k) zd = match aget l k with | some v => .held v | none => zd := by
 simp only [DataW.atKey, aget]
 induction l with
 | nil => rfl
 | cons p l ih =>
  simp only [map_cons, find?_cons]
  have e : (encKV p).1.sameKey (.string k) = (p.1 == k) := rfl
  rw [e]
  cases h : p.1 == k
  ·exact ih
  ·rfl
def SMap (P : Program) (kt : TypeId) (w : World) (b : Nat) (l : KV) : Prop := ∃ es clock, w.heap[b]? = some (.map es clock) /\ Go.WideElems.Fit P kt heldR es clock /\ (es.toList.map (rg P kt heldR)).foldr DataW.insert [] = l.map encKV
section
variable {P : Program} {kt t et : TypeId} {w w' : World} {b : Nat} {l : KV}
theorem SMap.of (h : SMap P kt w b l) (e : w'.heap[b]? = w.heap[b]?) : SMap P kt w' b l := by
 obtain ⟨es, c, h1, h2⟩ := h
 exact ⟨es, c, e.trans h1, h2⟩
theorem SMap.lt (h : SMap P kt w b l) : b < w.heap.size := by
 obtain ⟨es, c, h1, _⟩ := h
 exact (Array.getElem?_eq_some_iff.1 h1).1
theorem SMap.new (w : World) : SMap P kt (w.alloc (.map #[] 0)) w.heap.size [] := ⟨#[], 0, heap_alloc_new w _, ⟨by simp, stamped_empty 0, by simp⟩, rfl⟩
theorem SMap.size (h : SMap P kt w b l) : ∃ es clock, w.heap[b]? = some (.map es clock) /\ es.size = l.length := by
 obtain ⟨es, c, h1, h2, h3⟩ := h
 refine ⟨es, c, h1, ?_⟩
 have := congrArg List.length h3
 rw [length_sorted] at this
 simpa using this
theorem SMap.ne_blk {cs : Array Value} {g' : Nat} (h : SMap P kt w b l) (hb : Blk w g' t cs) : b ≠ g' := by
 rintro rfl
 obtain ⟨es, c, h1, _⟩ := h
 unfold Blk at hb
 rw [hb] at h1
 cases h1
theorem SMap.owns (h : SMap P kt w b l) : w.ownsMap P kt heldR b l.length (.map (l.map encKV)) := by
 obtain ⟨es, c, h1, h2, h3⟩ := h
 refine ⟨es, c, h1, h2, ?_, by rw [h3]⟩
 have := congrArg List.length h3
 rw [length_sorted] at this
 simp at this
 omega
theorem x6S (hk : P.underlying kt = some .string) (k : Key) (hs : k.length <= maxLen) : keyOf P kt (keyV k) = some (.string k) := by
 simp [keyOf, mapKey, hk, keyV, hs]
 exact hs
theorem x36 (hk : P.underlying kt = some .string) (ht : P.underlying t = some (.map kt et)) {z : Value} (hz : (zeroValue et).run P w = .ok z w) (h : SMap P kt w b l) (k : Key) (hs : k.length <= maxLen) :
  (Instr.lookup t (.map (some b)) (keyV k) false).run P w = .ok ((aget l k).getD z) w := by
 obtain ⟨es, c, h1, h2, h3⟩ := h
 have key := x6S hk k hs
 rcases fit_lookup (WideMaps.string_law hk) ht hz h1 h2 key with ⟨hr, ha⟩ | ⟨v, y, hr, hy, ha, _⟩
 ·have := ha (.lit (.bool true))
  rw [h3, x6D] at this
  cases hg : aget l k with
  | none => simpa using hr
  | some v => rw [hg] at this; cases this
 ·have := ha (.lit (.bool true))
  rw [h3, x6D] at this
  cases hg : aget l k with
  | none =>
   rw [hg] at this
   simp [heldR] at hy
   rw [<- hy] at this
   cases this
  | some u =>
   rw [hg] at this
   simp [heldR] at hy
   rw [<- hy] at this
   injection this with this
   subst this
   simpa using hr
theorem x3M (hk : P.underlying kt = some .string) (ht : P.underlying t = some (.map kt et)) {z : Value} (hz : (zeroValue et).run P w = .ok z w) (h : SMap P kt w b l) (k : Key) (hs : k.length <= maxLen) :
  (Instr.lookup t (.map (some b)) (keyV k) true).run P w = .ok (.tuple #[(aget l k).getD z, .bool (aget l k).isSome]) w := by
 obtain ⟨es, c, h1, h2, h3⟩ := h
 have key := x6S hk k hs
 rcases fit_lookup_ok (WideMaps.string_law hk) ht hz h1 h2 key with ⟨hr, ha⟩ | ⟨v, y, hr, hy, ha, _⟩
 ·have := ha (.lit (.bool true))
  rw [h3, x6D] at this
  cases hg : aget l k with
  | none => simpa using hr
  | some v => rw [hg] at this; cases this
 ·have := ha (.lit (.bool true))
  rw [h3, x6D] at this
  cases hg : aget l k with
  | none =>
   rw [hg] at this
   simp [heldR] at hy
   rw [<- hy] at this
   cases this
  | some u =>
   rw [hg] at this
   simp [heldR] at hy
   rw [<- hy] at this
   injection this with this
   subst this
   simpa using hr
theorem x5B {b : Nat} {es : Array MapEntry} {o' : Obj} (h : w.heap[b]? = some (.map es c)) : w.grownBy (setBlock w b o') (some b) /\ (setBlock w b o').heap.size = w.heap.size :=
  ⟨⟨rfl, rfl, rfl, by simp [setBlock], fun i _ hi => heap_setBlock_other h _ (fun e => hi (by rw [e]))⟩, by simp [setBlock]⟩
theorem x2A (hk : P.underlying kt = some .string) (ht : P.underlying t = some (.map kt et)) (h : SMap P kt w b l) (k : Key) (hs : k.length <= maxLen) (hroom : l.length < maxLen) (v : Value) :
  ∃ w', (Instr.mapUpdate t (.map (some b)) (keyV k) v).run P w = .ok () w' /\ SMap P kt w' b (aput k v l) /\ w.grownBy w' (some b) /\ w'.heap.size = w.heap.size := by
 obtain ⟨es0, c0, h10, hsz⟩ := h.size
 obtain ⟨es, c, h1, h2, h3⟩ := h
 rw [h1] at h10
 injection h10 with h10
 injection h10 with h10 _
 subst h10
 obtain ⟨es', c', hr, hf, hl, _⟩ := fit_update (R' := heldR) (WideMaps.string_law hk) ht h1 h2 (by omega) (fun _ _ _ h => h) (x6S hk k hs) (val := v) (yv := (.held v, [])) rfl
 obtain ⟨hg, hz⟩ := x5B (o' := .map es' c') h1
 refine ⟨_, hr, ⟨es', c', heap_setBlock_same h1 _, hf, ?_⟩, hg, hz⟩
 rw [hl, h3, xMX]
theorem x4L {ty : TypeId} (hk : P.underlying kt = some .string) (ht : P.underlying t = some (.map kt et)) (h : SMap P kt w b l) (k : Key) (hs : k.length <= maxLen) :
  ∃ w', (Builtin.delete_ #[t, kt] ty #[.map (some b), keyV k]).run P w = .ok (.tuple #[]) w' /\ SMap P kt w' b (adel k l) /\ w.grownBy w' (some b) /\ w'.heap.size = w.heap.size := by
 obtain ⟨es, c, h1, h2, h3⟩ := h
 obtain ⟨es', hr, hf, hl, _⟩ := fit_delete (R' := heldR) (ty := ty) (WideMaps.string_law hk) ht h1 h2 (fun _ _ _ h => h) (x6S hk k hs)
 obtain ⟨hg, hz⟩ := x5B (o' := .map es' c) h1
 refine ⟨_, hr, ⟨es', c, heap_setBlock_same h1 _, hf, ?_⟩, hg, hz⟩
 rw [hl, h3, xEG]
end
end
theorem xB5 {L : List (Nat × Nat)} (h : q < L.length) : lens (L.take (q + 1)) = lens (L.take q) + (gx L q).2 := by
 rw [take_add_one, x0R h]
 simp [lens]
theorem xDJ (L : List (Nat × Nat)) (q : Nat) : lens (L.take q) <= lens L := by
 conv => rhs; rw [<- take_append_drop q L]
 simp only [lens, map_append, List.sum_append]
 omega
theorem xBG {E : OA} {es : List (Nat × Nat)} (h2 : w.cell? ⟨g, 2, none⟩ = some (.slice E es.length c)) (hE : ExtR w B E (natE es)) (hB : B <= w.heap.size) (hl : lens es <= 1000000) (hn : es.length <= 1000000) :
  Calls prog 172 #[.pointer (some ⟨g, 0, none⟩)] w fun e w' => e = .returned (.int .i64 (lens es)) /\ Below w.heap.size w w' := by
 have HE := kH hE
 have HN : Hid ((natE es).length = es.length) := kH (by simp [natE])
 clear hE
 go_enter func172, ntmps172
 go_wp2
 go_loopw [3, 11] (fun s i wr => ∃ k : Nat, k <= es.length /\ i = .int .i64 k /\ s = .int .i64 (lens (es.take k)) /\ Below w.heap.size w wr) (fun _ i _ => es.length - (intS i).toNat)
 case atStart => exact ⟨0, by omega, rfl, by simp [lens], kB _ _⟩
 case round =>
  obtain ⟨k, hk, rfl, rfl, hb⟩ := hrel
  have HB := kH hb
  by_cases hlt : k < es.length
  ·obtain ⟨ad, e, rfl, hab, he, a0, a1⟩ := (HE.out.only (kO hb []) hB (fun _ _ => by simp)).get (k := k) (by rw [HN.out]; exact hlt)
   have he2 : e = (((gx es k).1 : Int), ((gx es k).2 : Int)) := by
    simp only [natE, List.getElem?_map, x0R hlt, Option.map_some] at he
    injection he with he
    exact he.symm
   subst he2
   have hs := xB5 hlt
   have hle := xDJ es (k + 1)
   have hws : IntKind.i64.wrap ((lens (es.take k) : Int) + ((gx es k).2 : Int)) = ((lens (es.take (k + 1)) : Nat) : Int) := by rw [hs, kI]; omega
   have hwk := wK k (by omega)
   have HS := kH hs
   clear he hb hs
   generalize lens (es.take (k + 1)) = s1 at *
   go_wp2_with (have _h := a0; refine x29 rfl (.tmp 13) rfl _ rfl _ a0 a1 ?_; clear _h a0 a1)
   go_roundw
   case rel => exact ⟨k + 1, by omega, by go_num, by rw [xB5 hlt, <- HS.out], HB.out.alloc HB.out.size _⟩
   case measure => simp [intS]; omega
  ·obtain rfl : k = es.length := by omega
   clear hb
   go_wp2
   go_ret
   rw [take_length]
   exact ⟨rfl, HB.out⟩
theorem xC3 (h0 : w.cell? ⟨g, 0, none⟩ = some (.slice D m c)) (hm : m <= 1000000) :
  Calls prog 173 #[.pointer (some ⟨g, 0, none⟩)] w fun e w' => e = .returned (.int .i64 (((m + 15) / 16 : Nat) : Int)) /\ w = w' := by
 have hw1 : IntKind.i64.wrap ((m : Int) + 16) = (m : Int) + 16 := by rw [kI]; omega
 have hw2 : IntKind.i64.wrap ((m : Int) + 16 - 1) = (m : Int) + 15 := by rw [kI]; omega
 have hw3 : IntKind.i64.wrap (((m : Int) + 15).tdiv 16) = (((m + 15) / 16 : Nat) : Int) := by
  rw [Int.tdiv_eq_ediv_of_nonneg (by omega), kI]
  omega
 go_enter func173, ntmps173
 go_wp2
 go_ret
 exact ⟨rfl, rfl⟩
theorem x7N (k : Nat) : (Builtin.zeroCells (Value.int .u8 0).cells k).toList = List.replicate k (Value.int .u8 0) := by
 apply ext_getElem?
 intro j
 by_cases hj : j < k
 ·simp [Builtin.zeroCells, Value.cells, hj, Nat.mod_one]
 ·simp [Builtin.zeroCells, Value.cells, hj]
theorem x93 (k : Nat) : Builtin.zeroCells (Value.int .u8 0).cells k = (List.replicate k (Value.int .u8 0)).toArray := by
  rw [<- x7N]
theorem xC8 {v : Value} {xs : List Value} (hown : w.ownsRow base 5 1 v n xs) (h0 : 0 < k) (hn : n + k <= 10000000) (hbase : base <= w.heap.size) (ty : TypeId) :
    ∃ v' w', (Builtin.append_ #[35, 3] ty #[v, .int .i64 (k : Int)]).run prog w = .ok v' w' /\ w'.ownsRow base 5 1 v' (n + k) (xs ++ List.replicate k (Value.int .u8 0)) /\ w.grownBy w' v.ownBlock /\ (v'.ownBlock = v.ownBlock ∨ v'.ownBlock = some w.heap.size) := by
  obtain ⟨i0, hi0, hz0, hz1, hz2⟩ := info_parts xBB
  have hlen : (xs ++ List.replicate k (Value.int .u8 0)).length = (n + k) * 1 := by rw [kN, hown.1]; simp
  have grown : ∀ (old : Nat), old < n + k -> ∀ (row : Option Nat),
      (w.drew.alloc (.cells (xs.toArray ++ Builtin.zeroCells (Value.int .u8 0).cells k ++ Builtin.zeroCells (Value.int .u8 0).cells (grownCap w (n + k) old 5 - (n + k))) 5)).ownsRow base 5 1
        (.slice (some ⟨w.heap.size, 0, none⟩) (n + k) (grownCap w (n + k) old 5)) (n + k) (xs ++ List.replicate k (Value.int .u8 0)) ∧
      w.grownBy (w.drew.alloc (.cells (xs.toArray ++ Builtin.zeroCells (Value.int .u8 0).cells k ++ Builtin.zeroCells (Value.int .u8 0).cells (grownCap w (n + k) old 5 - (n + k))) 5)) row := by
    intro old ho row
    have hge := grownCap_ge w (n + k) old 5
    have hcm : grownCap w (n + k) old 5 <= maxLen := grownCap_le_maxLen w (n + k) old 5 (by simp only [maxLen]; omega)
    refine ⟨⟨hlen, .inr ⟨w.heap.size, _, _, rfl, hbase, heap_alloc_new w.drew _, hge, hcm, ?_, ?_⟩⟩, ⟨rfl, rfl, rfl, by simp, fun j hj _ => heap_alloc_old w.drew _ hj⟩⟩
    · simp only [Array.size_append, size_toArray, size_zeroCells, hown.1]
      simp [Value.cells]
      omega
    · rw [x93, x93]
      simp only [Array.toList_append, append_assoc]
      rw [<- append_assoc, <- hlen]
      exact take_left
  rcases hown.2 with ⟨rfl, rfl⟩ | ⟨g, cap, cur, rfl, hbg, hg, hnc, hcm, hcs, htake⟩
  · have hx : xs = [] := eq_nil_of_length_eq_zero (by simpa using hown.1)
    subst hx
    have hr := Lib.run_append_nil_zeros (P := prog) w 35 3 ty 5 i0 (.int .u8 0) .i64 .i64 underlying35 underlying3 hi0 hz0 k h0 (by omega) (by omega) (by rw [hz2]; omega)
    have hgr := grown 0 (by omega) (Value.ownBlock (.slice none 0 0))
    simp only [Nat.zero_add, nil_append, Array.empty_append] at hgr ⊢
    exact ⟨_, _, hr, hgr.1, hgr.2, .inr rfl⟩
  · by_cases hroom : n + k <= cap
    · have hst := run_storeCells_at prog g n 5 (List.replicate k (Value.int .u8 0)) 0 cur w hg (by simp; omega) (fun u hu => by rw [eq_of_mem_replicate hu]; rfl)
      simp only [Nat.add_zero] at hst
      have hkk : k ≠ 0 := by omega
      have hw : IntKind.i64.wrap (k : Int) = k := by rw [kI]; omega
      have hneg : ¬ ((k : Int) < 0) := by omega
      have h48i : ¬ (281474976710656 < (k : Int) * (i0.bytes : Int)) := by rw [hz2]; omega
      have hns : ¬ (k * i0.size = 0) := by rw [hz1]; omega
      have hr : (Builtin.append_ #[35, 3] ty #[.slice (some ⟨g, 0, none⟩) n cap, .int .i64 (k : Int)]).run prog w = .ok (.slice (some ⟨g, 0, none⟩) (n + k) cap) (w.setRow g (cur.toList.take n ++ List.replicate k (Value.int .u8 0) ++ cur.toList.drop (n + (List.replicate k (Value.int .u8 0)).length)).toArray) := by
        have hz := x7N k
        simp [Builtin.append_, run_underlying underlying35, run_underlying underlying3, sizeOf, typeInfo, zeroValue, hi0, hz0, hz1, asInt, asIntOf, hw, hneg, h48i, hkk, hroom, Addr.add_lit] at hst ⊢
        rw [x93]
        simp [hst]
      refine ⟨_, _, hr, ⟨hlen, .inr ⟨g, cap, _, rfl, hbg, setRow_heap w g cur _ 5 _ hg, hroom, hcm, ?_, ?_⟩⟩, ⟨rfl, rfl, rfl, by simp, fun j _ hj => setRow_other w g j _ (fun e => hj (by simp [Value.ownBlock, e]))⟩, .inl rfl⟩
      · simp only [size_toArray, kN, length_take, length_drop, Array.length_toList, length_replicate]
        omega
      · have ht : cur.toList.take n = xs := by simpa using htake
        rw [ht, <- hlen]
        exact take_left
    · have holds : ∀ j u, xs[j]? = some u -> w.cell? ((⟨g, 0, none⟩ : Addr).add j) = some u := hown.cells (g := g) rfl
      have hold := run_firstCells_some (P := prog) w.drew i0.size n ⟨g, 0, none⟩ n cap xs (by rw [hz1]; exact hown.1) holds
      have hr := Lib.run_append_grow_zeros (P := prog) w 35 3 ty 5 i0 (.int .u8 0) .i64 .i64 underlying35 underlying3 hi0 hz0 (some ⟨g, 0, none⟩) n cap xs hold k h0 (by omega) (by omega) (by omega) (by rw [hz2]; omega) (growslice_fits (by omega) (by rw [hz2]; omega))
      have hgr := grown cap (by omega) (Value.ownBlock (.slice (some ⟨g, 0, none⟩) n cap))
      exact ⟨_, _, hr, hgr.1, hgr.2, .inr rfl⟩
def resizeB (bs : LN) (n : Nat) : LN := bs.take n ++ List.replicate (n - bs.length) 0
theorem x8F (bs : LN) (n : Nat) : (resizeB bs n).length = n := by simp [resizeB]; omega
theorem x27 (h : Own w base (.slice D m c) n bs) : m = n /\ bs.length = n /\ n <= c /\ (D = none ∨ ∃ b, D = some ⟨b, 0, none⟩) := by
 have hl : bs.length = n := by have := h.1; rw [x0C] at this; omega
 rcases h.2 with ⟨e, h0⟩ | ⟨b, cap, cur, e, hb, hh, h1, _⟩
 ·injection e with e1 e2 e3
  exact ⟨by omega, hl, by omega, .inl e1⟩
 ·injection e with e1 e2 e3
  exact ⟨e2, hl, by omega, .inr ⟨b, e1⟩⟩
theorem xMA (h : Own w base (.slice D m c) m bs) (hn : n <= m) : Own w base (.slice D n c) n (bs.take n) := by
 obtain ⟨-, hl, -, -⟩ := x27 h
 rcases h.2 with ⟨e, h0⟩ | ⟨b, cap, cur, e, hb, hh, h1, h2, h3, h4⟩
 ·injection e with e1 e2 e3
  subst e1
  have : n = 0 := by omega
  subst this
  have hc : c = 0 := by omega
  subst hc
  exact Own.nil w base
 ·injection e with e1 e2 e3
  subst e1 e3
  refine ⟨by rw [x0C]; simp; omega, .inr ⟨b, c, cur, rfl, hb, hh, by omega, h2, h3, ?_⟩⟩
  rw [show u8s (bs.take n) = (u8s bs).take n from by simp [u8s, map_take], <- h4, take_take]
  congr 1
  omega
theorem x56 (D : OA) (m c n : Nat) (h : n <= c) (hD : D = none ∨ ∃ b, D = some ⟨b, 0, none⟩) (w : World) : (Instr.slice 35 (.slice D m c) none (some (.int .i64 (n : Int))) none).run prog w = .ok (.slice D n c) w := by
 have hsz : ∀ w, (sizeOf (prog.elem 35)).run prog w = .ok 1 w := fun w => by kernel_rfl
 rw [run_slice_h w 35 D m c (by kernel_rfl) .i64 (n : Int) (by omega) (by omega), hsz]
 rcases hD with rfl | ⟨b, rfl⟩
 ·simp [Result.andThen, sliced]
 ·simp [Result.andThen, sliced, Addr.add]
theorem x6P {P : Program} (w : World) (g i : Nat) (ty : TypeId) (v : Value) (ht : w.there g i 1) (hi : (P.info? ty).map (·.size) = some 1) (h1 : v.oneCell' = true) :
  (storeVar ty ⟨g, i, none⟩ v).run P w = .ok () (w.setCell ⟨g, i, none⟩ v) := by
 have := run_storeCells_cells (P := P) g i [v] 0 w (fun j hj => by simpa using (ht j (by simpa using hj)).1) (fun j hj => by simpa using (ht j (by simpa using hj)).2) (fun u hu => by simp at hu; subst hu; exact h1)
 have hc : v.cells = #[v] := by cases v <;> first | rfl | cases h1
 cases hq : P.info? ty with
 | none => simp [hq] at hi
 | some i0 =>
  have hs : i0.size = 1 := by simpa [hq] using hi
  simp only [Nat.add_zero] at this
  simp [storeVar, sizeOf, typeInfo, hq, hc, hs, this, World.setCells]
theorem x2N {P : Program} {o : Oper} {a : Act} {K : Act -> World -> Prop} {Q : Exit -> Act -> World -> Prop} (ty : TypeId) (x y : Operand) (ho : o.op = .store ty x y)
 (g i : Nat) (t : TypeId) (cs : Array Value) (v : Value) (hx : a.eval x = .pointer (some ⟨g, i, none⟩)) (hy : a.eval y = v) (hB : Blk w g t cs) (hs : i < cs.size) (hi : (P.info? ty).map (·.size) = some 1) (h1 : v.oneCell' = true)
 (h : K (a.put o.dst undef) (w.setCell ⟨g, i, none⟩ v)) : o.wp P a w K Q := by
 unfold Oper.wp execOp
 simp only [ho, hx, hy, Instr.storeAt, Instr.sureAddr, Sem.run_bind, Sem.run_pure, kS, x6P w g i ty v (hB.there (by omega)) hi h1]
 exact h
def ResizeTo (w : World) (g : Nat) (t : TypeId) (cs : Array Value) (D : OA) (m c base : Nat) (bs : LN) (n : Nat) (e : Ending) (w' : World) : Prop :=
  e = .returned (.tuple #[]) /\ ∃ D' c', Blk w' g t (cs.setIfInBounds 0 (.slice D' n c')) /\ Own w' base (.slice D' n c') n (resizeB bs n) /\ Only (g :: rowOf (.slice D m c)) w w' /\ (D' = D ∨ ∃ b, D' = some ⟨b, 0, none⟩ /\ w.heap.size <= b)
theorem xAE {cs : Array Value} (hb : Blk w g t cs) (ht : t ≠ 5) (h0 : cs[0]? = some (.slice D m c)) (ho : Own w base (.slice D m c) m bs) (hbase : base <= w.heap.size) (hn : n <= 1000000) (hm : m <= 1000000) :
  Calls prog 170 #[.pointer (some ⟨g, 0, none⟩), .int .i64 (n : Int)] w (ResizeTo w g t cs D m c base bs n) := by
 obtain ⟨-, hl, hmc, hD⟩ := x27 ho
 have q0 : w.cell? ⟨g, 0, none⟩ = some (.slice D m c) := by rw [hb.cell]; exact h0
 have f0 : w.frozen? ⟨g, 0, none⟩ = false := hb.frozen 0
 have HB := kH hb
 have HO := kH ho
 have hs0 : cs.size ≠ 0 := fun e => by rw [Array.getElem?_eq_none (by omega)] at h0; cases h0
 have HR : Hid (∀ b, (Value.slice D m c).ownBlock = some b -> b ≠ g) := kH fun b hk => by
  rcases ho.2 with ⟨e, _⟩ | ⟨b', cap, cur, e, _, hh, _⟩
  ·rw [e] at hk; simp [Value.ownBlock] at hk
  ·rw [e] at hk
   simp [Value.ownBlock] at hk
   subst hk
   intro e'
   subst e'
   exact hb.ne_ (show Blk w b' 5 cur from hh) ht rfl
 by_cases hle : n <= m
 ·have hd : decide ((m : Int) < (n : Int)) = false := decide_eq_false (by omega)
  have hd' : decide (m < n) = false := decide_eq_false (by omega)
  have hsl := x56 D m c n (by omega) hD
  have hfin : ResizeTo w g t cs D m c base bs n (.returned (.tuple #[])) (w.setCell ⟨g, 0, none⟩ (.slice D n c)) := by
   refine ⟨rfl, D, c, HB.out.set_ 0 _, ?_, (kU _ _).setCell (.inl (by simp)) _, .inl rfl⟩
   have h1 := xMA HO.out hle
   have h2 : resizeB bs n = bs.take n := by simp [resizeB, show n - bs.length = 0 by omega]
   rw [h2]
   exact x06 h1 fun k hk => kE _ _ _ _ (HR.out k (by have := x00.1 hk; cases D <;> simp [Value.ownBlock] at this ⊢ <;> exact this))
  have HFIN := kH hfin
  clear hb ho h0 hfin
  go_enter func170, ntmps170
  go_wp2
  refine kZ (results_none rfl _ _ _) rfl ?_
  exact HFIN.out
 ·have hd : decide ((m : Int) < (n : Int)) = true := decide_eq_true (by omega)
  have hd' : decide (m < n) = true := decide_eq_true (by omega)
  have hwd : IntKind.i64.wrap ((n : Int) - (m : Int)) = ((n - m : Nat) : Int) := by rw [kI]; omega
  obtain ⟨v', w1, hrun, hown1, hg1, hv1⟩ := xC8 (w := w.drew) (k := n - m) HO.out (by omega) (by omega) hbase 35
  rw [show m + (n - m) = n by omega] at hown1
  have hz : u8s bs ++ List.replicate (n - m) (Value.int .u8 0) = u8s (resizeB bs n) := by
   simp [resizeB, u8s, u8, hl, take_of_length_le (show bs.length <= n by omega)]
  rw [hz] at hown1
  have hb1 : Blk w1 g t cs := HB.out.drew.grown hg1 (fun e => HR.out g e.symm rfl)
  have hO1 : Own w1 base v' n (resizeB bs n) := hown1
  obtain ⟨D1, c1, rfl⟩ : ∃ D1 c1, v' = .slice D1 n c1 := by
   rcases hown1.2 with ⟨e, e0⟩ | ⟨b', cap, cur, e, _⟩
   ·exact ⟨none, 0, by rw [e, e0]⟩
   ·exact ⟨_, cap, e⟩
  obtain ⟨-, -, hnc1, hD1⟩ := x27 hO1
  have hsl := x56 D1 n c1 n hnc1 hD1
  have hon : Only (g :: rowOf (.slice D m c)) w w1 := by
   refine (show Only (g :: rowOf (.slice D m c)) w w.drew from ⟨rfl, rfl, rfl, kR _, fun _ _ _ => rfl⟩).grown hg1 (fun j hj => .inl (by simp [x00, hj]))
  have hne1 : ∀ b, (Value.slice D1 n c1).ownBlock = some b -> b ≠ g := fun b hk => by
   rcases hv1 with e | e
   ·exact HR.out b (e ▸ hk)
   ·rw [hk] at e
    injection e with e
    have := HB.out.lt
    have e2 : b = w.heap.size := e
    omega
  have hfin : ResizeTo w g t cs D m c base bs n (.returned (.tuple #[])) ((w1.setCell ⟨g, 0, none⟩ (.slice D1 n c1)).setCell ⟨g, 0, none⟩ (.slice D1 n c1)) := by
   have hb2 := (hb1.set_ 0 (.slice D1 n c1)).set_ 0 (.slice D1 n c1)
   refine ⟨rfl, D1, c1, ?_, ?_, (hon.setCell (.inl (by simp)) _).setCell (.inl (by simp)) _, ?_⟩
   ·simpa using hb2
   ·exact x06 (x06 hO1 fun k hk => kE _ _ _ _ (hne1 k (x00.1 hk))) fun k hk => kE _ _ _ _ (hne1 k (x00.1 hk))
   ·rcases hv1 with e | e
    ·rcases hD1 with rfl | ⟨b, rfl⟩
     ·rcases hD with rfl | ⟨b2, rfl⟩
      ·exact .inl rfl
      ·simp [Value.ownBlock] at e
     ·rcases hD with rfl | ⟨b2, rfl⟩
      ·simp [Value.ownBlock] at e
      ·simp [Value.ownBlock] at e
       exact .inl (by rw [e])
    ·rcases hD1 with rfl | ⟨b, rfl⟩
     ·simp [Value.ownBlock] at e
     ·simp [Value.ownBlock] at e
      exact .inr ⟨b, rfl, by omega⟩
  have HFIN := kH hfin
  have HB1 := kH hb1
  have HRUN := kH hrun
  have hS : (Blk w.drew g t cs) := HB.out.drew
  have HC0 : Hid (∀ w', Blk w' g t cs -> w'.cell? ⟨g, 0, none⟩ = some (.slice D m c)) := kH fun w' h => by rw [h.cell]; exact h0
  clear hb ho hfin hb1 hrun hown1 hg1 hO1 hon hne1 hv1 hz
  go_enter func170, ntmps170
  go_upto_region 1 with (fail)
  refine x09 (fun w' => Blk w' g t cs) 15 (by kernel_rfl) ?_
  refine tU 0 (.pointer (some ⟨g, 0, none⟩)) rfl (fun w hw => by kernel_rfl) hS ?_
  refine tU 1 (.pointer (some ⟨g, 0, none⟩)) rfl (fun w hw => by kernel_rfl) hS ?_
  refine tU 2 (.pointer (some ⟨g, 0, none⟩)) rfl (fun w hw => by go_simp) hS ?_
  refine tU 3 (.pointer (some ⟨g, 0, none⟩)) rfl (fun w hw => by kernel_rfl) hS ?_
  refine tU 4 (.slice D m c) rfl (fun w hw => by have q := HC0.out w hw; go_simp) hS ?_
  refine tU 5 (.int .i64 (n : Int)) rfl (fun w hw => by kernel_rfl) hS ?_
  refine tU 6 (.pointer (some ⟨g, 0, none⟩)) rfl (fun w hw => by kernel_rfl) hS ?_
  refine tU 7 (.pointer (some ⟨g, 0, none⟩)) rfl (fun w hw => by go_simp) hS ?_
  refine tU 8 (.pointer (some ⟨g, 0, none⟩)) rfl (fun w hw => by kernel_rfl) hS ?_
  refine tU 9 (.slice D m c) rfl (fun w hw => by have q := HC0.out w hw; go_simp) hS ?_
  refine tU 10 (.int .i64 (m : Int)) rfl (fun w hw => by go_simp) hS ?_
  refine tU 11 (.int .i64 ((n - m : Nat) : Int)) rfl (fun w hw => by go_simp) hS ?_
  refine tO 12 ?_
  refine Lib.wp_append_run w.drew (.tmp 15) (.tmp 22) 35 3 rfl (.slice D m c) (.int .i64 ((n - m : Nat) : Int)) rfl rfl (.slice D1 n c1) w1 HRUN.out ?_
  refine ⟨HB1.out, ?_⟩
  simp only [nH, pu, nB, nC, nD]
  refine tO 13 ?_
  refine x0A (v := .pointer (some ⟨g, 0, none⟩)) (w' := w1) (by go_simp) ⟨HB1.out, ?_⟩
  simp only [nH, pu, nB, nC, nD]
  refine tO 14 ?_
  refine x0A (v := .pointer (some ⟨g, 0, none⟩)) (w' := w1) (by kernel_rfl) ⟨HB1.out, ?_⟩
  simp only [nH, pu, nB, nC, nD]
  refine tZ ?_
  refine x2N 35 (.tmp 25) (.tmp 23) (by rfl) g 0 t cs (.slice D1 n c1) (by rfl) (by rfl) HB1.out (by omega) (by kernel_rfl) rfl ?_
  refine NoPanic.normal ?_
  have q1 : (w1.setCell ⟨g, 0, none⟩ (.slice D1 n c1)).cell? ⟨g, 0, none⟩ = some (.slice D1 n c1) := by
   rw [(HB1.out.set_ 0 _).cell, Array.getElem?_setIfInBounds_self_of_lt (by omega)]
  have f1 : (w1.setCell ⟨g, 0, none⟩ (.slice D1 n c1)).frozen? ⟨g, 0, none⟩ = false := (HB1.out.set_ 0 _).frozen 0
  have HW := kH (show ∃ W, W = w1.setCell ⟨g, 0, none⟩ (.slice D1 n c1) from ⟨_, rfl⟩)
  generalize w1.setCell ⟨g, 0, none⟩ (.slice D1 n c1) = W at *
  go_wp2
  refine kZ (results_none rfl _ _ _) rfl ?_
  exact HFIN.out
theorem x6J (A : OA) (m c k : Nat) (hk : k <= m) (w : World) : (Instr.slice 35 (.slice A m c) (some (.int .i64 k)) none none).run prog w = .ok (.slice (if c = k then A else A.map (·.add (k * 1))) (m - k) (c - k)) w := by
 have hsz : ∀ w, (sizeOf (prog.elem 35)).run prog w = .ok 1 w := fun w => by kernel_rfl
 rw [run_slice_l w 35 A m c (by kernel_rfl) .i64 k (by omega) (by omega), hsz]
 simp only [Result.andThen, sliced, kP]
theorem xDB (A : OA) (m c n : Nat) (h : n <= c) (w : World) : (Instr.slice 35 (.slice A m c) none (some (.int .i64 (n : Int))) none).run prog w = .ok (.slice (if c = 0 then A else A.map (·.add 0)) n c) w := by
 have hsz : ∀ w, (sizeOf (prog.elem 35)).run prog w = .ok 1 w := fun w => by kernel_rfl
 rw [run_slice_h w 35 A m c (by kernel_rfl) .i64 (n : Int) (by omega) (by omega), hsz]
 simp [Result.andThen, sliced]
def partA (m at_ : Nat) : Nat := min at_ m
def partK (m at_ n : Nat) : Nat := min n (m - min at_ m)
def partV (D : OA) (m c at_ n : Nat) : Value :=
  .slice (if c - partA m at_ = 0 then (if c = partA m at_ then D else D.map (·.add (partA m at_ * 1))) else (if c = partA m at_ then D else D.map (·.add (partA m at_ * 1))).map (·.add 0)) (partK m at_ n) (c - partA m at_)
theorem xDY (h0 : w.cell? ⟨g, 0, none⟩ = some (.slice D m c)) (hmc : m <= c) (hm : m <= 1000000) (at_ n : Nat) (ha : at_ <= 9223372036854775807) (hn : n <= 9223372036854775807) :
    Calls prog 169 #[.pointer (some ⟨g, 0, none⟩), .int .i64 (at_ : Int), .int .i64 (n : Int)] w fun e w' => e = .returned (partV D m c at_ n) /\ Below w.heap.size w w' := by
  have key : ∀ (a k : Nat), a = partA m at_ -> k = partK m at_ n -> a <= m -> k <= m - a -> ∃ A1 A2 : OA, partV D m c at_ n = .slice A2 k (c - a) /\ (∀ w : World, (Instr.slice 35 (.slice D m c) (some (.int .i64 (a : Int))) none none).run prog w = .ok (.slice A1 (m - a) (c - a)) w) ∧
      ∀ (w : World), (Instr.slice 35 (.slice A1 (m - a) (c - a)) none (some (.int .i64 (k : Int))) none).run prog w = .ok (.slice A2 k (c - a)) w := fun a k ea ek h1 h2 => ⟨_, _, by unfold partV; rw [<- ea, <- ek], fun w => x6J D m c a h1 w, fun w => by
        rw [xDB _ (m - a) (c - a) k (by omega) w]⟩
  by_cases h1 : at_ <= m
  · have hc1 : decide ((at_ : Int) <= (m : Int)) = true := decide_eq_true (by omega)
    by_cases h2 : n <= m - at_
    · obtain ⟨A1, A2, hv, k1, k2⟩ := key at_ n (by unfold partA; omega) (by unfold partK; omega) h1 h2
      rw [hv]
      have hc2 : decide ((n : Int) <= ((m - at_ : Nat) : Int)) = true := decide_eq_true (by omega)
      have hlt : n <= 1000000 := by omega
      clear key hv
      go_enter func169, ntmps169
      go_wp2
      go_quiet (fail)
      go_wp2
      go_ret
      exact ⟨rfl, x08 (kB _ _) _⟩
    · obtain ⟨A1, A2, hv, k1, k2⟩ := key at_ (m - at_) (by unfold partA; omega) (by unfold partK; omega) h1 (kR _)
      rw [hv]
      have hc2 : decide ((n : Int) <= ((m - at_ : Nat) : Int)) = false := decide_eq_false (by omega)
      have hlt : at_ <= 1000000 := by omega
      clear key hv
      go_enter func169, ntmps169
      go_wp2
      go_quiet (fail)
      go_wp2
      go_ret
      exact ⟨rfl, x08 (kB _ _) _⟩
  · have hc1 : decide ((at_ : Int) <= (m : Int)) = false := decide_eq_false (by omega)
    have hmm : m - m = 0 := by omega
    by_cases h2 : n = 0
    · subst h2
      obtain ⟨A1, A2, hv, k1, k2⟩ := key m 0 (by unfold partA; omega) (by unfold partK; omega) (kR _) (kY _)
      rw [hv]
      rw [hmm] at k1 k2
      have k3 : ∀ w : World, (Instr.slice 35 (.slice A1 0 (c - m)) none (some (.int .i64 0)) none).run prog w = .ok (.slice A2 0 (c - m)) w := k2
      have hz : (0 : Int) <= 0 := by omega
      clear key hv
      go_enter func169, ntmps169
      go_wp2
      go_quiet (fail)
      go_wp2
      go_ret
      exact ⟨rfl, x08 (kB _ _) _⟩
    · have hpos : 0 < n := by omega
      obtain ⟨A1, A2, hv, k1, k2⟩ := key m 0 (by unfold partA; omega) (by unfold partK; omega) (kR _) (kY _)
      rw [hv]
      rw [hmm] at k1 k2
      have k3 : ∀ w : World, (Instr.slice 35 (.slice A1 0 (c - m)) none (some (.int .i64 0)) none).run prog w = .ok (.slice A2 0 (c - m)) w := k2
      have hc2 : decide ((n : Int) <= 0) = false := decide_eq_false (by omega)
      clear key hv
      go_enter func169, ntmps169
      go_wp2
      go_quiet (fail)
      go_wp2
      go_ret
      exact ⟨rfl, x08 (kB _ _) _⟩
def writeB (bs : LN) (at_ : Nat) (nb : LN) : LN :=
  if nb.length = 0 then bs else (resizeB bs (max bs.length (at_ + nb.length))).take at_ ++ nb ++ (resizeB bs (max bs.length (at_ + nb.length))).drop (at_ + nb.length)
theorem x5X {cs : Array Value} {v : Value} (h : cs[i]? = some v) : cs.setIfInBounds i v = cs := by
 apply Array.ext_getElem?
 intro j
 rw [Array.getElem?_setIfInBounds]
 split
 ·rename_i e
  subst e
  have hl := (Array.getElem?_eq_some_iff.1 h).1
  rw [if_pos hl, h]
 ·rfl
theorem xD6 {b at_ : Nat} {R nb : LN} (h : Own w base (.slice (some ⟨b, 0, none⟩) n c) n R) (hk : at_ + nb.length <= n) : ∃ cur : Array Value, Blk w b 5 cur /\ at_ + nb.length <= cur.size ∧
  Own (w.setRow b (cur.toList.take at_ ++ u8s nb ++ cur.toList.drop (at_ + (u8s nb).length)).toArray) base (.slice (some ⟨b, 0, none⟩) n c) n (R.take at_ ++ nb ++ R.drop (at_ + nb.length)) /\ Only [b] w (w.setRow b (cur.toList.take at_ ++ u8s nb ++ cur.toList.drop (at_ + (u8s nb).length)).toArray) := by
 obtain ⟨-, hl, -, -⟩ := x27 h
 rcases h.2 with ⟨e, h0⟩ | ⟨b', cap, cur, e, hb, hh, h1, h2, h3, h4⟩
 ·cases e
 ·injection e with e1 e2 e3
  injection e1 with e1
  injection e1 with e1
  subst e1 e3
  refine ⟨cur, hh, by omega, ⟨?_, .inr ⟨b, c, _, rfl, hb, setRow_heap w b cur _ 5 _ hh, h1, h2, ?_, ?_⟩⟩, ⟨rfl, rfl, rfl, by simp [World.setRow], fun k _ hk => setRow_other w b k _ (fun e => hk (by simp [e]))⟩⟩
  ·rw [x0C]
   simp
   omega
  ·simp [x0C]
   omega
  ·have hcl : cur.toList.length = c := by simp; omega
   have h4' : cur.toList.take n = u8s R := by simpa using h4
   apply ext_getElem?
   intro j
   have hR : ∀ j, j < n -> cur.toList[j]? = (u8s R)[j]? := fun j hj => by rw [<- h4', List.getElem?_take, if_pos hj]
   have hu : u8s (R.take at_ ++ nb ++ R.drop (at_ + nb.length)) = (u8s R).take at_ ++ u8s nb ++ (u8s R).drop (at_ + nb.length) := by simp [u8s, map_take, map_drop]
   rw [hu, Nat.mul_one, List.getElem?_take]
   have hul : (u8s R).length = n := by rw [x0C]; exact hl
   by_cases hj : j < n
   ·rw [if_pos hj]
    simp only [toList_toArray, List.getElem?_append, kN, length_take, List.getElem?_take, List.getElem?_drop, x0C]
    rw [show min at_ cur.toList.length = at_ by omega, show min at_ R.length = at_ by omega]
    by_cases h5 : j < at_
    ·rw [if_pos (by omega), if_pos h5, if_pos h5, if_pos (by omega), if_pos h5, if_pos h5]
     exact hR j hj
    ·by_cases h6 : j < at_ + nb.length
     ·rw [if_pos (by omega), if_neg h5, if_pos (by omega), if_neg h5]
     ·rw [if_neg (by omega), if_neg (by omega)]
      rw [show at_ + nb.length + (j - (at_ + nb.length)) = j by omega]
      exact hR j hj
   ·rw [if_neg hj, List.getElem?_eq_none]
    simp [x0C]
    omega
theorem Bytes.only_ {F : LN} (h : Bytes w B A n bs) (ho : Only F w w') (ha : ∀ a, A = some a -> 0 < n -> a.block ∉ F) : Bytes w' B A n bs :=
 ⟨⟨h.1.1, fun hn => by
  obtain ⟨ad, e, hB, hc⟩ := h.1.2 hn
  exact ⟨ad, e, hB, fun j u hu => (ho.cell (World.block_lt_of_cell? w _ (hc j u hu)) (by rw [x0K]; exact ha ad e hn)).trans (hc j u hu)⟩⟩, h.2⟩
def WriteTo (w : World) (g : Nat) (t : TypeId) (cs : Array Value) (D : OA) (m c base : Nat) (bs : LN) (at_ : Nat) (nb : LN) (e : Ending) (w' : World) : Prop :=
  e = .returned (.tuple #[]) /\ ∃ D' n' c', Blk w' g t (cs.setIfInBounds 0 (.slice D' n' c')) /\ Own w' base (.slice D' n' c') n' (writeB bs at_ nb) /\ Only (g :: rowOf (.slice D m c)) w w' /\ (D' = D ∨ ∃ b, D' = some ⟨b, 0, none⟩ /\ w.heap.size <= b)
theorem xFU {at_ c2 : Nat} {cs : Array Value} {A2 : OA} {nb : LN} (hb : Blk w g t cs) (ht : t ≠ 5) (h0 : cs[0]? = some (.slice D m c)) (ho : Own w base (.slice D m c) m bs) (hbase : base <= w.heap.size)
 (hB : Bytes w B A2 nb.length nb) (hBl : B <= w.heap.size) (hfar : ∀ ad, A2 = some ad -> ad.block ≠ g /\ ad.block ∉ rowOf (.slice D m c)) (hat : at_ + nb.length <= 1000000) (hm : m <= 1000000) :
    Calls prog 168 #[.pointer (some ⟨g, 0, none⟩), .int .i64 (at_ : Int), .slice A2 nb.length c2] w (WriteTo w g t cs D m c base bs at_ nb) := by
  have q0 : w.cell? ⟨g, 0, none⟩ = some (.slice D m c) := by rw [hb.cell]; exact h0
  obtain ⟨-, hl, hmc, hD⟩ := x27 ho
  by_cases hk : nb.length = 0
  · have hfin : WriteTo w g t cs D m c base bs at_ nb (.returned (.tuple #[])) w := ⟨rfl, D, m, c, by rw [x5X h0]; exact hb, by unfold writeB; rw [if_pos hk]; exact ho, kU _ _, .inl rfl⟩
    have HFIN := kH hfin
    have hkb : ((nb.length : Int) == 0) = true := by simp [hk]
    have HK := kH hk
    clear hb h0 ho hB hfin hk
    go_enter func168, ntmps168
    go_wp2
    refine kZ (results_none rfl _ _ _) rfl ?_
    exact HFIN.out
  · obtain ⟨N, hN⟩ := kX (max bs.length (at_ + nb.length))
    have HRS := kH (xAE (n := N) hb ht h0 ho hbase (by omega) hm)
    have hwa : IntKind.i64.wrap ((at_ : Int) + (nb.length : Int)) = ((at_ + nb.length : Nat) : Int) := by rw [kI]; omega
    have hkb : ((nb.length : Int) == 0) = false := beq_eq_false_iff_ne.2 (by omega)
    have hs0 : cs.size ≠ 0 := fun e => by rw [Array.getElem?_eq_none (by omega)] at h0; cases h0
    have HB := kH hB
    have HFAR := kH hfar
    have HKN := kH hk
    have HNN := kH hN
    have HGL := kH hb.lt
    clear hb h0 ho hB hfar
    have tail : ∀ (w1 : World), ResizeTo w g t cs D m c base bs N (.returned (.tuple #[])) w1 -> ∃ (b1 c1 : Nat) (W : World), w1.cell? ⟨g, 0, none⟩ = some (.slice (some ⟨b1, 0, none⟩) N c1) ∧
        (Instr.slice 35 (.slice (some ⟨b1, 0, none⟩) N c1) (some (.int .i64 (at_ : Int))) none none).run prog w1 = .ok (.slice (some ⟨b1, at_, none⟩) (N - at_) (c1 - at_)) w1 ∧
        (Builtin.copy_ #[35, 35] 3 #[.slice (some ⟨b1, at_, none⟩) (N - at_) (c1 - at_), .slice A2 nb.length c2]).run prog w1 = .ok (.int .i64 (nb.length : Int)) W /\ WriteTo w g t cs D m c base bs at_ nb (.returned (.tuple #[])) W := by
      rintro w1 ⟨-, D1, c1, hb1, ho1, hon, hnew⟩
      have hNe := HNN.out
      obtain ⟨-, hl1, hnc, hD1⟩ := x27 ho1
      obtain ⟨b1, rfl⟩ : ∃ b1, D1 = some ⟨b1, 0, none⟩ := by
        rcases hD1 with rfl | h
        · rcases ho1.2 with ⟨e, e0⟩ | ⟨b', _, _, e, _⟩
          · omega
          · cases e
        · exact h
      have hB1 : Bytes w1 w1.heap.size A2 nb.length nb := (HB.out.only_ hon (fun ad hA hpos => by have := HFAR.out ad hA; simp; exact this)).more (kT hBl hon.size)
      obtain ⟨a2, rfl⟩ : ∃ a2, A2 = some a2 := by
        obtain ⟨ad, e, _⟩ := HB.out.1.2 (by omega)
        exact ⟨ad, e⟩
      obtain ⟨cur, hcur, hfit, hown2, hon2⟩ := xD6 (at_ := at_) (nb := nb) ho1 (by omega)
      have hcp := run_copy_row (P := prog) w1 35 35 3 5 b1 at_ (N - at_) (c1 - at_) a2 nb.length c2 cur 5 (u8s nb) underlying35 (by kernel_rfl) hcur (by rw [x0C]; exact (Nat.min_eq_left (by omega)).symm) (fun j u hu => by
        obtain ⟨ad, e, _, hc⟩ := hB1.1.2 (by omega)
        injection e with e
        subst e
        exact hc j u hu) (by rw [x0C]; exact hfit) (x1W _)
      have hne : g ≠ b1 := hb1.ne_ hcur ht
      refine ⟨b1, c1, _, ?_, ?_, ?_, rfl, some ⟨b1, 0, none⟩, N, c1, hb1.of (hon2.block g hb1.lt (by simp; exact hne)), ?_, hon.trans hon2 (fun k hk => by
        simp at hk
        subst hk
        rcases hnew with e | ⟨b2, e, hb2⟩
        · left; simp [x00, <- e, Value.ownBlock]
        · injection e with e; injection e with e; subst e; exact .inr hb2), hnew⟩
      · rw [hb1.cell, Array.getElem?_setIfInBounds_self_of_lt (by omega)]
      · rw [x6J (some ⟨b1, 0, none⟩) N c1 at_ (by omega), if_neg (by omega), Option.map_some, Nat.mul_one, x19]
      · rw [hcp, x0C]
        rfl
      · unfold writeB
        rw [if_neg HKN.out, <- hNe]
        exact hown2
    have HTL := kH tail
    clear tail
    by_cases hmx : at_ + nb.length <= m
    · have hNm : N = m := by omega
      have hd : decide (((at_ + nb.length : Nat) : Int) <= (m : Int)) = true := decide_eq_true (by omega)
      have hd2 : decide ((m : Int) < ((at_ + nb.length : Nat) : Int)) = false := decide_eq_false (by omega)
      subst hNm
      clear hN
      generalize hak : at_ + nb.length = ak at *
      go_enter func168, ntmps168
      go_wp2_with fail
      refine HRS.out.mono ?_
      rintro e w1 hr
      obtain rfl := hr.1
      obtain ⟨b1, c1, W, x0, x1, x2, hfin⟩ := HTL.out w1 hr
      have HFIN := kH hfin
      clear hr hfin HTL HRS
      go_wp2
      refine kZ (results_none rfl _ _ _) rfl ?_
      exact HFIN.out
    · have hNm : N = at_ + nb.length := by omega
      have hd : decide (((at_ + nb.length : Nat) : Int) <= (m : Int)) = false := decide_eq_false (by omega)
      have hd2 : decide ((m : Int) < ((at_ + nb.length : Nat) : Int)) = true := decide_eq_true (by omega)
      subst hNm
      clear hN
      generalize hak : at_ + nb.length = ak at *
      go_enter func168, ntmps168
      go_wp2_with fail
      refine HRS.out.mono ?_
      rintro e w1 hr
      obtain rfl := hr.1
      obtain ⟨b1, c1, W, x0, x1, x2, hfin⟩ := HTL.out w1 hr
      have HFIN := kH hfin
      clear hr hfin HTL HRS
      go_wp2
      refine kZ (results_none rfl _ _ _) rfl ?_
      exact HFIN.out
section
def keyB (bs : LN) : Key := bs.map UInt8.ofNat
theorem x50 (bs : LN) : (strOf bs).data.toList = bs.map UInt8.ofNat := by
  simp [strOf, strOfNums]
theorem x17 (bs : LN) : keyV (keyB bs) = .string (strOf bs) := by
 unfold keyV keyB
 congr 1
 rw [<- x50]
def stC (ms : Nat) (bl : List Bool) (gp : Nat) : Array Value := (Value.map (some ms) :: (bl.map Value.bool ++ [.pointer (some ⟨gp, 0, none⟩)])).toArray
structure StAt (w : World) (gs ms gp r c : Nat) (A : OA) (bl fl : List Bool) (kv : KV) : Prop where
 blk : Blk w gs 122 (stC ms bl gp)
 len : bl.length = 8
 map : SMap prog 9 w ms kv
 sp : SAt w gp r A c fl (cnt fl)
 ne : gp ≠ r
section
variable {w : World} {gs ms gp r c : Nat} {A : OA} {bl fl : List Bool} {kv : KV}
theorem StAt.c0 (h : StAt w gs ms gp r c A bl fl kv) : w.cell? ⟨gs, 0, none⟩ = some (.map (some ms)) := by rw [h.blk.cell]; simp [stC]
theorem StAt.c9 (h : StAt w gs ms gp r c A bl fl kv) : w.cell? ⟨gs, 9, none⟩ = some (.pointer (some ⟨gp, 0, none⟩)) := by
 rw [h.blk.cell]
 simp only [stC, List.getElem?_toArray]
 rw [List.getElem?_cons_succ, List.getElem?_append_right (by simp [h.len])]
 simp [h.len]
theorem StAt.cb (h : StAt w gs ms gp r c A bl fl kv) {b : Bool} (hj : bl[j]? = some b) : w.cell? ⟨gs, 1 + j, none⟩ = some (.bool b) := by
 have hl := (List.getElem?_eq_some_iff.1 hj).1
 rw [h.blk.cell]
 simp only [stC, List.getElem?_toArray]
 rw [Nat.add_comm, List.getElem?_cons_succ, List.getElem?_append_left (by simpa using hl)]
 simp [hj]
theorem xAH (h : StAt w gs ms gp r c A bl fl kv) (bs : LN) (hl : bs.length <= 1000000) :
  Calls prog 75 #[.pointer (some ⟨gs, 0, none⟩), .string (strOf bs)] w fun e w' => e = .returned ((aget kv (keyB bs)).getD (.pointer none)) /\ w = w' := by
 have q0 := h.c0
 have hz : (zeroValue 147).run prog w = .ok (.pointer none) w := by kernel_rfl
 have hlk := x36 (P := prog) (t := 118) (et := 147) underlying9 underlying118 hz h.map (keyB bs) (by simp [keyB, maxLen]; omega)
 rw [x17] at hlk
 clear h
 generalize (aget kv (keyB bs)).getD (.pointer none) = v at *
 go_enter func75, ntmps75
 go_wp2
 go_ret
 exact ⟨rfl, rfl⟩
end
end
end Go.Proofs.YtpogpajjemaagaaGreatDoor
