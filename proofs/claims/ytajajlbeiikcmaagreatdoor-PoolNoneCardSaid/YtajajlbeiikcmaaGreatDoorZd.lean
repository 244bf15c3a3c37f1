/-
 What a top tells. Condition: the package's table holds its sixteen numbers.
-/
import Derived.Test.YtajajlbeiikcmaaGreatDoorZc
import Derived.Lib.SlBytesConst
import Derived.BigQuiet
import Derived.Lib.ConvBytes
namespace Go.Proofs.YtajajlbeiikcmaaGreatDoor
set_option linter.unusedSimpArgs false
set_option linter.unusedVariables false
set_option maxRecDepth 100000
theorem kH {p : Prop} (h : p) : Go.RowKit.Hid p := h
theorem kA {p q : Prop} (a : p) (b : q) : p ∧ q := ⟨a, b⟩
section
open Go.RowKit
noncomputable def topOf (s : Sec) : Option (Int × Int) := if isSealed s.l = true /\ tK s.l = 1 /\ tN s.l = 0 /\ isNum (tD s.l) = true /\ 0 <= numOf (tD s.l) then some (tG s.l, numOf (tD s.l)) else none
def toldV : Option (Int × Int) -> Value
 | some (g, z) => .tuple #[.int .i64 g, .int .i64 z, .bool true]
 | none => .tuple #[.int .i64 0, .int .i64 0, .bool false]
set_option maxHeartbeats 2000000 in
theorem xJG (s : Sec) (w : World) (hT : Tab w) : Calls Tryz.prog 217 #[s.v] w fun e w' => e = .returned (toldV (topOf s)) /\ Below w.heap.size w w' := by
 unfold Sec.v
 have B0 := kH (Blk.new w 66 s.cs.toArray)
 have hb0 : Below w.heap.size w (w.alloc (.cells s.cs.toArray 66)) := (Below.refl _ _).alloc (Nat.le_refl _) _
 have hus := Tryz.underlying66
 have hib : (Tryz.prog.info? 66).map (·.size) = some s.cs.length := by rw [Sec.cs_len]; exact x0W
 have HT := kH hT
 clear hT
 go_enter Tryz.func217, Tryz.ntmps217
 go_wp2_with (refine wpList_load_mid rfl 66 (.tmp 1) rfl w.heap.size 0 rfl s.cs _ B0.out.range hus rfl hib ?_)
 have hbz := x1X
 cases hs : isSealed s.l with
 | false =>
  have htop : topOf s = none := by unfold topOf; rw [if_neg (by rw [hs]; simp)]
  have HTP := kH htop
  clear htop
  refine (xD6 s _ (HT.out.below hb0) hs).mono ?_
  rintro e w1 ⟨rfl, b1⟩
  have e11 : errV 11 = .iface 46 (.int .i64 11) := rfl
  rw [e11]
  have B1 := hb0.trans (b1.mono hb0.size)
  have hone : ∀ u ∈ boxCs 0 0 0 (.slice none 0 0), u.oneCell' = true := x19 0 0 0 none 0 0
  have hib2 : (Tryz.prog.info? 280).map (·.size) = some (boxCs 0 0 0 (.slice none 0 0)).length := x0S
  clear hs b1
  go_wp2_with (refine x07 rfl 280 (.tmp 5) (.tmp 10) rfl w1.heap.size rfl (boxCs 0 0 0 (.slice none 0 0)) _ rfl rfl hib2 rfl hone ?_)
  go_ret3
  exact ⟨by rw [HTP.out]; rfl, B1.alloc B1.size _⟩
 | true =>
  refine (x3E s _ (HT.out.below hb0) hs).mono ?_
  rintro e w1 ⟨A, c, rfl, hown, b1⟩
  have HS := kH hs
  have B1 := kH (hb0.trans (b1.mono hb0.size))
  have hone : ∀ u ∈ boxCs (tK s.l) (tG s.l) (tN s.l) (.slice A (tD s.l).length c), u.oneCell' = true := x19 _ _ _ A _ c
  have hib2 : (Tryz.prog.info? 280).map (·.size) = some (boxCs (tK s.l) (tG s.l) (tN s.l) (.slice A (tD s.l).length c)).length := x0S
  have BX := Blk.new w1 280 (boxCs (tK s.l) (tG s.l) (tN s.l) (.slice A (tD s.l).length c)).toArray
  have HBY := kH ((hown.bytes (x2N s.l s.lt)).since (x0D w1 (.cells (boxCs (tK s.l) (tG s.l) (tN s.l) (.slice A (tD s.l).length c)).toArray 280)))
  have BXH := kH BX
  have BW := kH (B1.out.alloc B1.out.size (.cells (boxCs (tK s.l) (tG s.l) (tN s.l) (.slice A (tD s.l).length c)).toArray 280))
  have htl := x52 s.l
  have hq := fun (i : Nat) => BX.cell i
  have q0 : (w1.alloc (.cells (boxCs (tK s.l) (tG s.l) (tN s.l) (.slice A (tD s.l).length c)).toArray 280)).cell? ⟨w1.heap.size, 0, none⟩ = some (.int .i64 (tK s.l)) := hq 0
  have q1 : (w1.alloc (.cells (boxCs (tK s.l) (tG s.l) (tN s.l) (.slice A (tD s.l).length c)).toArray 280)).cell? ⟨w1.heap.size, 1, none⟩ = some (.int .i64 (tG s.l)) := hq 1
  have q2 : (w1.alloc (.cells (boxCs (tK s.l) (tG s.l) (tN s.l) (.slice A (tD s.l).length c)).toArray 280)).cell? ⟨w1.heap.size, 2, none⟩ = some (.int .i64 (tN s.l)) := hq 2
  have q3 : (w1.alloc (.cells (boxCs (tK s.l) (tG s.l) (tN s.l) (.slice A (tD s.l).length c)).toArray 280)).cell? ⟨w1.heap.size, 3, none⟩ = some (.slice A (tD s.l).length c) := hq 3
  clear hs hown b1 BX hq
  generalize hgb : w1.heap.size = gb at *
  by_cases hk : tK s.l = 1
  ·have hk1 : (tK s.l != 1) = false := by simp [hk]
   have HKK := kH hk
   clear hk
   by_cases hn : tN s.l = 0
   ·have hn1 : (tN s.l != 0) = false := by simp [hn]
    have HNN := kH hn
    clear hn
    go_wp2_with (refine x07 rfl 280 (.tmp 5) (.tmp 10) rfl gb hgb (boxCs (tK s.l) (tG s.l) (tN s.l) (.slice A (tD s.l).length c)) _ rfl rfl hib2 rfl hone ?_)
    refine (x9N A c (tD s.l) _ (HBY.out.more (by rw [World.size_alloc, hgb]; omega)) (by omega)).mono ?_
    rintro e w2 ⟨rfl, b2⟩
    have q1 : w2.cell? ⟨gb, 1, none⟩ = some (.int .i64 (tG s.l)) := (BXH.out.below b2 BXH.out.lt).cell 1
    have B2 := kH (BW.out.trans (b2.mono BW.out.size))
    clear b2
    by_cases hnum : isNum (tD s.l) = true
    ·rw [if_pos hnum, hnum]
     by_cases hpos : 0 <= numOf (tD s.l)
     ·have htop : topOf s = some (tG s.l, numOf (tD s.l)) := by unfold topOf; rw [if_pos ⟨HS.out, HKK.out, HNN.out, hnum, hpos⟩]
      have hd : decide (numOf (tD s.l) < 0) = false := by simp; omega
      have HTP := kH htop
      clear htop
      go_wp2
      go_ret3
      exact ⟨by rw [HTP.out]; rfl, B2.out⟩
     ·have htop : topOf s = none := by unfold topOf; rw [if_neg (fun h => hpos h.2.2.2.2)]
      have hd : decide (numOf (tD s.l) < 0) = true := by simp; omega
      have HTP := kH htop
      clear htop
      go_wp2
      go_ret3
      exact ⟨by rw [HTP.out]; rfl, B2.out⟩
    ·have htop : topOf s = none := by unfold topOf; rw [if_neg (fun h => hnum h.2.2.2.1)]
     have hf : isNum (tD s.l) = false := by simpa using hnum
     rw [if_neg hnum, hf]
     have HTP := kH htop
     clear htop
     go_wp2
     go_ret3
     exact ⟨by rw [HTP.out]; rfl, B2.out⟩
   ·have htop : topOf s = none := by unfold topOf; rw [if_neg (fun h => hn h.2.2.1)]
    have hn1 : (tN s.l != 0) = true := by simpa using hn
    have HTP := kH htop
    clear htop
    go_wp2_with (refine x07 rfl 280 (.tmp 5) (.tmp 10) rfl gb hgb (boxCs (tK s.l) (tG s.l) (tN s.l) (.slice A (tD s.l).length c)) _ rfl rfl hib2 rfl hone ?_)
    go_ret3
    exact ⟨by rw [HTP.out]; rfl, BW.out⟩
  ·have htop : topOf s = none := by unfold topOf; rw [if_neg (fun h => hk h.2.1)]
   have hk1 : (tK s.l != 1) = true := by simpa using hk
   have HTP := kH htop
   clear htop hk
   go_wp2_with (refine x07 rfl 280 (.tmp 5) (.tmp 10) rfl gb hgb (boxCs (tK s.l) (tG s.l) (tN s.l) (.slice A (tD s.l).length c)) _ rfl rfl hib2 rfl hone ?_)
   go_ret3
   exact ⟨by rw [HTP.out]; rfl, BW.out⟩
end
section
open Go.RowKit
noncomputable def endOf (s : Sec) (g p m : Int) : Bool := isOf s.l 4 g p && (isNum (tD s.l) && (numOf (tD s.l) == m))
set_option maxHeartbeats 2000000 in
theorem xMK (s : Sec) (g p m : Int) (w : World) (hT : Tab w) : Calls Tryz.prog 219 #[s.v, .int .i64 g, .int .i64 p, .int .i64 m] w fun e w' => e = .returned (.bool (endOf s g p m)) /\ Below w.heap.size w w' := by
 unfold Sec.v
 have B0 := kH (Blk.new w 66 s.cs.toArray)
 have hb0 : Below w.heap.size w (w.alloc (.cells s.cs.toArray 66)) := (Below.refl _ _).alloc (Nat.le_refl _) _
 have hus := Tryz.underlying66
 have hib : (Tryz.prog.info? 66).map (·.size) = some s.cs.length := by rw [Sec.cs_len]; exact x0W
 have htl := x52 s.l
 have HT := kH hT
 clear hT
 go_enter Tryz.func219, Tryz.ntmps219
 go_wp2_with (refine wpList_load_mid rfl 66 (.tmp 4) rfl w.heap.size 0 rfl s.cs _ B0.out.range hus rfl hib ?_)
 cases hi : isOf s.l 4 g p with
 | false =>
  have htop : endOf s g p m = false := by unfold endOf; rw [hi]; rfl
  have HTP := kH htop
  clear htop
  refine (xND s 4 g p _ (HT.out.below hb0) hi).mono ?_
  rintro e w1 ⟨rfl, b1⟩
  have B1 := hb0.trans (b1.mono hb0.size)
  clear b1
  go_wp2
  go_ret
  exact ⟨by rw [HTP.out]; rfl, B1⟩
 | true =>
  refine (xDH s 4 g p _ (HT.out.below hb0) hi).mono ?_
  rintro e w1 ⟨A, c, rfl, hown, b1⟩
  have HY := kH (hown.bytes (x2N s.l s.lt))
  have B1 := kH (hb0.trans (b1.mono hb0.size))
  have HI := kH hi
  clear hown b1 hi
  go_wp2_with fail
  refine (x9N A c (tD s.l) w1 HY.out (by omega)).mono ?_
  rintro e w2 ⟨rfl, b2⟩
  have B2 := kH (B1.out.trans (b2.mono B1.out.size))
  clear b2
  cases hn : isNum (tD s.l) with
  | false =>
   have htop : endOf s g p m = false := by unfold endOf; rw [hn]; simp
   have HTP := kH htop
   clear htop
   simp only [Bool.false_eq_true, if_false]
   clear hn
   go_wp2
   go_ret
   exact ⟨by rw [HTP.out]; rfl, B2.out⟩
  | true =>
   have htop : endOf s g p m = (numOf (tD s.l) == m) := by unfold endOf; rw [hn, HI.out]; simp
   have HTP := kH htop
   clear htop
   simp only [if_true]
   clear hn
   go_wp2
   go_ret
   exact ⟨by rw [HTP.out]; rfl, B2.out⟩
end
section
open Go.RowKit
noncomputable def pickTop (acc : Option (Int × Int)) (i : Nat) (s : Sec) : Option (Int × Int) := match topOf s with
 | some (g, z) => if g % 2 = i /\ (∀ x, acc = some x -> x.1 < g) then some (g, z) else acc
 | none => acc
noncomputable def newestL (ss : List Sec) : Nat -> Option (Int × Int)
 | 0 => none
 | k + 1 => pickTop (newestL ss k) k (ss[k]?.getD Sec.zero)
theorem xK2 {s : Sec} {g z : Int} (h : topOf s = some (g, z)) : 0 <= g := by
 unfold topOf at h
 split at h
 ·rename_i hh
  have h1 : isBoxB (tK s.l) (tG s.l) (tN s.l) = true := by
   have := hh.1
   unfold isSealed at this
   simp only [Bool.and_eq_true] at this
   exact this.1
  injection h with h
  injection h with h2 h3
  rw [<- h2]
  unfold isBoxB at h1
  have := of_decide_eq_true h1
  exact this.2.2.1
 ·cases h
def accG : Option (Int × Int) -> Int
 | some (g, _) => g
 | none => 0
def accZ : Option (Int × Int) -> Int
 | some (_, z) => z
 | none => 0
theorem xLT (o : Option (Int × Int)) : toldV o = .tuple #[.int .i64 (accG o), .int .i64 (accZ o), .bool o.isSome] := by
  rcases o with _ | ⟨g, z⟩ <;> rfl
set_option maxHeartbeats 4000000 in
theorem xHJ (A : Option Addr) (c : Nat) (ss : List Sec) (w : World) (hR : Reads w w.heap.size 128 A ss.length (ss.flatMap Sec.cs)) (hl : ss.length <= 100) (hT : Tab w) (hpos : 0 < w.heap.size) :
  Calls Tryz.prog 178 #[.slice A ss.length c] w fun e w' => e = .returned (toldV (newestL ss ss.length)) /\ Below w.heap.size w w' := by
 obtain ⟨Zs, hz6, hzl⟩ : ∃ Zs : List Value, (∀ w, (zeroValue 66).run Tryz.prog w = .ok (.agg Zs.toArray) w) /\ Zs.length = 128 := ⟨_, x0U, Sec.cs_len _⟩
 have hus := Tryz.underlying66
 have hib : ∀ s : Sec, (Tryz.prog.info? 66).map (·.size) = some s.cs.length := fun s => by rw [Sec.cs_len]; exact x0W
 have HR := kH hR
 have HT := kH hT
 clear hR hT
 go_enter Tryz.func178, Tryz.ntmps178
 go_wp2
 go_loopg [2, 3, 4, 12] ss.length (fun gk a b o j wr => ∃ (k : Nat), k <= ss.length /\ gk = ss.length - k /\ a = .int .i64 (accG (newestL ss k)) /\ b = .int .i64 (accZ (newestL ss k)) /\ o = .bool (newestL ss k).isSome /\ j = .int .i64 k /\ Below w.heap.size w wr)
 case atStart => exact ⟨0, by omega, by omega, rfl, rfl, rfl, rfl, Below.refl _ _⟩
 case round =>
  obtain ⟨k, hk, rfl, rfl, rfl, rfl, rfl, hb⟩ := hrel
  by_cases hlt : k < ss.length
  ·obtain ⟨ad, s, rfl, hadb, hs, hc⟩ := x4C (HR.out.below hb) hlt
   have hnx : newestL ss (k + 1) = pickTop (newestL ss k) k s := by show pickTop (newestL ss k) k (ss[k]?.getD Sec.zero) = _; rw [hs]; rfl
   have BX := kH (Blk.new wr 66 s.cs.toArray)
   have BW := kH (hb.alloc hb.size (.cells s.cs.toArray 66))
   have HNX := kH hnx
   clear hb hs hnx
   generalize newestL ss k = acc at *
   go_wp2_with (first
    | (refine x1S rfl 66 (.tmp 15) rfl _ rfl s.cs _ hc hus rfl (hib s) ?_)
    | (refine x07 rfl 66 (.tmp 6) (.tmp 16) rfl wr.heap.size rfl s.cs Zs.toArray rfl rfl (hib s) (by simp [Sec.cs_len, hzl]) s.one ?_)
    | (refine wpList_load_mid rfl 66 (.tmp 6) rfl wr.heap.size 0 rfl s.cs _ BX.out.range hus rfl (hib s) ?_))
   refine (xJG s _ (x0O HT.out BW.out hpos)).mono ?_
   rintro e w5 ⟨rfl, b5⟩
   have B5 := kH (BW.out.trans (b5.mono BW.out.size))
   clear b5 hc
   cases ht : topOf s with
   | none =>
    have hp : pickTop acc k s = acc := by unfold pickTop; rw [ht]
    have HP := kH (HNX.out.trans hp)
    simp only [toldV]
    clear hp ht
    go_wp2
    go_roundg (ss.length - (k + 1))
    case measure => omega
    case rel => exact ⟨k + 1, by omega, rfl, by rw [HP.out], by rw [HP.out], by rw [HP.out], by go_num, B5.out⟩
   | some x =>
    obtain ⟨g, z⟩ := x
    have hg0 := xK2 ht
    obtain ⟨gn, rfl⟩ := Int.eq_ofNat_of_zero_le hg0
    simp only [toldV]
    by_cases hm : gn % 2 = k
    ·have hme : (((gn % 2 : Nat) : Int) == (k : Int)) = true := by simp; omega
     have hme2 : (gn % 2 == k) = true := by simpa using hm
     have hme3 : ((gn : Int) % 2 == (k : Int)) = true := by simp; omega
     rcases acc with _ | ⟨g0, z0⟩
     ·have hp : pickTop none k s = some ((gn : Int), z) := by unfold pickTop; rw [ht]; simp; omega
      have HP := kH (HNX.out.trans hp)
      clear hp ht hm
      simp only [accG, accZ, Option.isSome]
      go_wp2_with (go_at_call 149; refine (x3F gn _).mono ?_; rintro e w' ⟨rfl, rfl⟩)
      go_roundg (ss.length - (k + 1))
      case measure => omega
      case rel => exact ⟨k + 1, by omega, rfl, by rw [HP.out]; rfl, by rw [HP.out]; rfl, by rw [HP.out]; rfl, by go_num, B5.out⟩
     ·by_cases hlt2 : g0 < (gn : Int)
      ·have hp : pickTop (some (g0, z0)) k s = some ((gn : Int), z) := by unfold pickTop; rw [ht]; simp [hlt2]; omega
       have hd : decide (g0 < (gn : Int)) = true := by simpa using hlt2
       have HP := kH (HNX.out.trans hp)
       clear hp ht hm hlt2
       simp only [accG, accZ, Option.isSome]
       go_wp2_with (go_at_call 149; refine (x3F gn _).mono ?_; rintro e w' ⟨rfl, rfl⟩)
       go_roundg (ss.length - (k + 1))
       case measure => omega
       case rel => exact ⟨k + 1, by omega, rfl, by rw [HP.out]; rfl, by rw [HP.out]; rfl, by rw [HP.out]; rfl, by go_num, B5.out⟩
      ·have hp : pickTop (some (g0, z0)) k s = some (g0, z0) := by unfold pickTop; rw [ht]; simp [hlt2]
       have hd : decide (g0 < (gn : Int)) = false := by simpa using hlt2
       have HP := kH (HNX.out.trans hp)
       clear hp ht hm hlt2
       simp only [accG, accZ, Option.isSome]
       go_wp2_with (go_at_call 149; refine (x3F gn _).mono ?_; rintro e w' ⟨rfl, rfl⟩)
       go_roundg (ss.length - (k + 1))
       case measure => omega
       case rel => exact ⟨k + 1, by omega, rfl, by rw [HP.out]; rfl, by rw [HP.out]; rfl, by rw [HP.out]; rfl, by go_num, B5.out⟩
    ·have hme : (((gn % 2 : Nat) : Int) == (k : Int)) = false := by simp; omega
     have hme2 : (gn % 2 == k) = false := by simpa using hm
     have hme3 : ((gn : Int) % 2 == (k : Int)) = false := by simp; omega
     have hp : pickTop acc k s = acc := by
      unfold pickTop
      rw [ht]
      simp only
      rw [if_neg (fun h => hm (by have := h.1; omega))]
     have HP := kH (HNX.out.trans hp)
     clear hp ht hm
     go_wp2_with (go_at_call 149; refine (x3F gn _).mono ?_; rintro e w' ⟨rfl, rfl⟩)
     go_roundg (ss.length - (k + 1))
     case measure => omega
     case rel => exact ⟨k + 1, by omega, rfl, by rw [HP.out], by rw [HP.out], by rw [HP.out], by go_num, B5.out⟩
  ·obtain rfl : k = ss.length := by omega
   go_wp2
   go_ret3
   exact ⟨by rw [xLT]; rfl, hb⟩
end
section
open Go.RowKit
theorem xBH (st : List Nat) (k : Nat) : st.take (106 * (k + 1)) = st.take (106 * k) ++ prow st k := by
 unfold prow
 rw [show 106 * (k + 1) = 106 * k + 106 by omega, List.take_add]
set_option maxHeartbeats 4000000 in
theorem xEC (A : Option Addr) (c : Nat) (ss : List Sec) (gen : Int) (st : List Nat) (w : World) (hR : Reads w w.heap.size 128 A ss.length (ss.flatMap Sec.cs)) (hl : ss.length <= 4096) (hT : Tab w) (hpos : 0 < w.heap.size) (hst : st.length <= 100000) (hfit : pn st <= ss.length)
  (hin : ∀ k s, k < pn st -> ss[k]? = some s -> isOf s.l 2 gen k = true /\ tD s.l = prow st k) :
  Calls Tryz.prog 179 #[.slice A ss.length c, .int .i64 gen, .int .i64 st.length] w fun e w' => ∃ v, e = .returned (.tuple #[v, .bool true]) /\ Own w' w.heap.size v st.length st /\ Below w.heap.size w w' := by
 have hpf : decide ((ss.length : Int) < (partsOf st.length : Int)) = false := by have : partsOf st.length = pn st := rfl; simp; omega
 have hpf2 : decide (ss.length < partsOf st.length) = false := by have : partsOf st.length = pn st := rfl; simp; omega
 have hpe : partsOf st.length = pn st := rfl
 have HR := kH hR
 have HT := kH hT
 have HIN := kH hin
 clear hR hT hin
 go_enter Tryz.func179, Tryz.ntmps179
 go_wp2_with fail
 refine (x2J st.length w (by omega)).mono ?_
 rintro e w' ⟨rfl, rfl⟩
 go_wp2_with fail
 refine (x2J st.length w (by omega)).mono ?_
 rintro e w' ⟨rfl, rfl⟩
 rw [hpe]
 clear hpf hpf2 hpe
 go_wp2
 go_loopg [8, 19] (pn st) (fun gk v j wr => ∃ (k : Nat) (u : Value), k <= pn st /\ gk = pn st - k /\ u = v /\ j = .int .i64 k /\ Below w.heap.size w wr /\ Own wr w.heap.size u (st.take (106 * k)).length (st.take (106 * k)))
 case atStart => exact ⟨0, _, by omega, by omega, rfl, rfl, Below.refl _ _, by simpa using Own.nil w w.heap.size⟩
 case round =>
  obtain ⟨k, u, hk, rfl, rfl, rfl, hb, hown⟩ := hrel
  by_cases hlt : k < pn st
  ·obtain ⟨ad, s, rfl, hadb, hs, hc⟩ := x4C (HR.out.below hb) (show k < ss.length by omega)
   obtain ⟨his, htd⟩ := HIN.out k s hlt hs
   obtain ⟨Au, cu, rfl⟩ := x0H hown
   have hib : (Tryz.prog.info? 66).map (·.size) = some s.cs.length := by rw [Sec.cs_len]; exact x0W
   have hus := Tryz.underlying66
   have hk1 : (k : Int) < (ss.length : Int) := by omega
   have HO := kH hown
   have HB := kH hb
   have hpn : 106 * k < st.length /\ st.length <= 100000 := by have : pn st = (st.length + 105) / 106 := rfl; omega
   have htl : (st.take (106 * k)).length = 106 * k := by rw [List.length_take]; omega
   have hpl : (prow st k).length = min 106 (st.length - 106 * k) := x8K st k
   have htk := xBH st k
   have HTK := kH htk
   clear hs hown hb htk
   go_wp2_with (refine x1S rfl 66 (.tmp 25) rfl _ rfl s.cs _ hc hus rfl hib ?_)
   refine (xDH s 2 gen k wr (x0O HT.out HB.out hpos) his).mono ?_
   rintro e w5 ⟨A5, c5, rfl, ho5, b5⟩
   rw [htd] at ho5 ⊢
   have HTD := kH htd
   have O5 := kH ho5
   have HO5 := kH (x05 HO.out (w' := w5) (fun x hx => b5.block x (x02 HO.out x hx)))
   have HB5 := kH (HB.out.trans (b5.mono HB.out.size))
   have hs5 := b5.size
   clear ho5 b5 his hc htd
   have O6 := HO5.out
   rw [htl] at O6
   have HO6 := kH O6
   have BY := kH (O5.out.bytes (fun b hb => by rw [<- HTD.out] at hb; exact x2N s.l s.lt b hb))
   clear O6
   have HTL := kH htl
   have HPL := kH hpl
   clear hpl htl
   generalize hplg : (prow st k).length = pl at *
   have hpl := HPL.out
   by_cases hm : st.length - 106 * k < 106
   ·have hne : ((pl : Int) != (st.length : Int) - 106 * (k : Int)) = false := by simp; omega
    have hc1 : ¬ (106 : Int) <= (st.length : Int) - (106 * (k : Int)) := by omega
    have hplb : pl <= 106 := by omega
    clear hpl
    go_wp2_with (at_builtin; refine x2U (.tmp 44) (.tmp 45) rfl rfl w.heap.size (.slice Au (106 * k) cu) (106 * k) (st.take (106 * k)) rfl HO6.out w5.heap.size A5 pl c5 (prow st k) rfl BY.out (by omega) HB5.out.size ?_; intro v6 w6 h6 hg6 ha6)
    go_roundg (pn st - (k + 1))
    case measure => omega
    case rel =>
     refine ⟨k + 1, v6, by omega, rfl, rfl, by go_num, HB5.out.grown hg6 HB5.out.size (fun x hx => (World.ownsRow.lt HO6.out x hx).1), ?_⟩
     rw [HTK.out, List.length_append, HTL.out, hplg]
     exact h6
   ·have hne : ((pl : Int) != 106) = false := by simp; omega
    have hc1 : (106 : Int) <= (st.length : Int) - (106 * (k : Int)) := by omega
    have hplb : pl <= 106 := by omega
    clear hpl
    go_wp2_with (at_builtin; refine x2U (.tmp 44) (.tmp 45) rfl rfl w.heap.size (.slice Au (106 * k) cu) (106 * k) (st.take (106 * k)) rfl HO6.out w5.heap.size A5 pl c5 (prow st k) rfl BY.out (by omega) HB5.out.size ?_; intro v6 w6 h6 hg6 ha6)
    go_roundg (pn st - (k + 1))
    case measure => omega
    case rel =>
     refine ⟨k + 1, v6, by omega, rfl, rfl, by go_num, HB5.out.grown hg6 HB5.out.size (fun x hx => (World.ownsRow.lt HO6.out x hx).1), ?_⟩
     rw [HTK.out, List.length_append, HTL.out, hplg]
     exact h6
  ·obtain rfl : k = pn st := by omega
   have htl : st.take (106 * pn st) = st := List.take_of_length_le (by unfold pn; omega)
   rw [htl] at hown
   obtain ⟨Au, cu, rfl⟩ := x0H hown
   go_wp2
   go_ret2
   exact ⟨_, rfl, hown, hb⟩
end
section
open Go.RowKit
noncomputable def readL (d : DM) (a m : Nat) : List Sec := (List.range m).map (readRow d a m)
theorem x2X (d : DM) (a m : Nat) : (readL d a m).length = m := by simp [readL]
set_option maxHeartbeats 4000000 in
theorem xAF {w0 w : World} {g gj n : Nat} {d : DM} {X : List Nat} (h : Holds w0 w g d X) (hJ : Blk w gj 176 (jcells n g 0 (.slice none 0 0) (.slice none 0 0) 0 false)) (hgj : gj ∈ X) (hgj0 : w0.heap.size <= gj) (hdn : d.n = n) (hn : n <= 4096) (hn8 : 8 <= n) (hup : d.gone = false) (hwt : d.wait.length <= 1000000)
  (hT : Tab w) (hw0 : 0 < w0.heap.size) (gen : Nat) (st : List Nat) (hst : st.length <= 100000) (hfit : pn st <= areaOf n) (htop : newestL (readL d 0 2) 2 = some ((gen : Int), (st.length : Int)))
  (hin : ∀ k s, k < pn st -> (readL d (stateAt n gen) (areaOf n))[k]? = some s -> isOf s.l 2 gen k = true /\ tD s.l = prow st k) :
  Calls Tryz.prog 118 #[.pointer (some ⟨gj, 0, none⟩)] w fun e w' => ∃ B cc, e = .returned .nilIface /\ Holds w0 w' g d (blkOf B ++ X) /\ (∀ k ∈ blkOf B, w.heap.size <= k) /\ Blk w' gj 176 (jcells n g gen (.slice B st.length cc) (.slice none 0 0) 0 false) /\ Own w' w.heap.size (.slice B st.length cc) st.length st /\ (∀ k, k < w.heap.size -> k ≠ gj -> w'.heap[k]? = w.heap[k]?) /\ w.heap.size <= w'.heap.size := by
 have hpos : 0 < w.heap.size := Nat.lt_of_lt_of_le hw0 h.size
 have hsa : stateAt n gen + areaOf n <= d.n := by
  rw [hdn]
  unfold stateAt areaOf
  have : gen % 2 = 0 ∨ gen % 2 = 1 := by omega
  rcases this with h | h <;> rw [h] <;> omega
 have has := x2F hn
 have H := kH h
 have HJ := kH hJ
 have HT := kH hT
 have HTOP := kH htop
 have q2 : w.cell? ⟨gj, 2, none⟩ = some (.pointer (some ⟨g, 0, none⟩)) := hJ.cell 2
 clear h hJ hT htop
 go_enter Tryz.func118, Tryz.ntmps118
 go_wp2_with fail
 refine (x6P H.out 0 2 hup (by omega) (by omega) hwt).mono ?_
 rintro e w1 ⟨v, rfl, hrow, b1⟩
 obtain ⟨A1, c1, rfl⟩ := x0H hrow
 rw [x3U] at hrow
 have R1 := kH (Reads.of_own hrow)
 have B1 := kH b1
 have J1 := kH (HJ.out.below b1 HJ.out.lt)
 clear hrow b1 q2
 go_wp2_with fail
 refine (xHJ A1 c1 (readL d 0 2) w1 R1.out (by rw [x2X]; omega) (x0O HT.out B1.out hpos) (Nat.lt_of_lt_of_le hpos B1.out.size)).mono ?_
 rintro e w2 ⟨rfl, b2⟩
 rw [x2X, HTOP.out]
 simp only [toldV]
 have B2 := kH (B1.out.trans (b2.mono B1.out.size))
 have J2 := kH (J1.out.below b2 J1.out.lt)
 clear b2 R1
 have hul := Tryz.underlying173
 go_wp2
 have hS0 : Blk w2.drew gj 176 (jcells n g 0 (.slice none 0 0) (.slice none 0 0) 0 false) := J2.out
 refine x09 (fun w' => Blk w' gj 176 (jcells n g 0 (.slice none 0 0) (.slice none 0 0) 0 false)) 99 (by kernel_rfl) ?_
 refine tS (i := 0) (v := .pointer (some ⟨gj, 0, none⟩)) rfl rfl (by kernel_rfl) (by rfl) (fun w hw => by kernel_rfl) hS0 ?_
 simp only [Act.put, nB, nC, nD, nE, nF, nG]
 refine tS (i := 1) (v := .pointer (some ⟨gj, 0, none⟩)) rfl rfl (by kernel_rfl) (by rfl) (fun w hw => by go_simp) hS0 ?_
 simp only [Act.put, nB, nC, nD, nE, nF, nG]
 refine tS (i := 2) (v := .pointer (some ⟨gj, 2, none⟩)) rfl rfl (by kernel_rfl) (by rfl) (fun w hw => by kernel_rfl) hS0 ?_
 simp only [Act.put, nB, nC, nD, nE, nF, nG]
 refine tS (i := 3) (v := .pointer (some ⟨g, 0, none⟩)) rfl rfl (by kernel_rfl) (by rfl) (fun w hw => by have q : w.cell? ⟨_, 2, none⟩ = some (.pointer (some ⟨g, 0, none⟩)) := hw.cell 2; go_simp) hS0 ?_
 simp only [Act.put, nB, nC, nD, nE, nF, nG]
 refine tS (i := 4) (v := .pointer (some ⟨gj, 0, none⟩)) rfl rfl (by kernel_rfl) (by rfl) (fun w hw => by kernel_rfl) hS0 ?_
 simp only [Act.put, nB, nC, nD, nE, nF, nG]
 refine tS (i := 5) (v := .pointer (some ⟨gj, 0, none⟩)) rfl rfl (by kernel_rfl) (by rfl) (fun w hw => by go_simp) hS0 ?_
 simp only [Act.put, nB, nC, nD, nE, nF, nG]
 refine tS (i := 6) (v := .pointer (some ⟨gj, 0, none⟩)) rfl rfl (by kernel_rfl) (by rfl) (fun w hw => by kernel_rfl) hS0 ?_
 simp only [Act.put, nB, nC, nD, nE, nF, nG]
 refine tS (i := 7) (v := .agg [.int .i64 (areaOf n), .int .i64 (logOf n)].toArray) rfl rfl (by kernel_rfl) (by rfl) (fun w hw => x2G 173 (.tmp 37) rfl gj 0 rfl _ _ (x2D hw) hul rfl x2K) hS0 ?_
 simp only [Act.put, nB, nC, nD, nE, nF, nG]
 refine tS (i := 8) (v := .int .i64 gen) rfl rfl (by kernel_rfl) (by rfl) (fun w hw => by kernel_rfl) hS0 ?_
 simp only [Act.put, nB, nC, nD, nE, nF, nG]
 refine tS (i := 10) (v := .pointer (some ⟨gj, 0, none⟩)) rfl rfl (by kernel_rfl) (by rfl) (fun w hw => by kernel_rfl) hS0 ?_
 simp only [Act.put, nB, nC, nD, nE, nF, nG]
 refine tS (i := 11) (v := .pointer (some ⟨gj, 0, none⟩)) rfl rfl (by kernel_rfl) (by rfl) (fun w hw => by go_simp) hS0 ?_
 simp only [Act.put, nB, nC, nD, nE, nF, nG]
 refine tS (i := 12) (v := .pointer (some ⟨gj, 0, none⟩)) rfl rfl (by kernel_rfl) (by rfl) (fun w hw => by kernel_rfl) hS0 ?_
 simp only [Act.put, nB, nC, nD, nE, nF, nG]
 refine tS (i := 13) (v := .pointer (some ⟨gj, 0, none⟩)) rfl rfl (by kernel_rfl) (by rfl) (fun w hw => by kernel_rfl) hS0 ?_
 simp only [Act.put, nB, nC, nD, nE, nF, nG]
 refine tS (i := 14) (v := .int .i64 (areaOf n)) rfl rfl (by kernel_rfl) (by rfl) (fun w hw => by have q : w.cell? ⟨_, 0, none⟩ = some (.int .i64 (areaOf n)) := hw.cell 0; go_simp) hS0 ?_
 simp only [Act.put, nB, nC, nD, nE, nF, nG]
 refine x01 (j := 9) (by kernel_rfl) rfl (by rfl) ?_
 simp only [Act.put, nB, nC, nD, nE, nF, nG]
 refine x03 (by kernel_rfl) (x86 n gen w2.drew hn) ?_
 rintro e w3 ⟨rfl, b3'⟩
 have b3 := x0K b3'
 have hS3 := J2.out.below b3 J2.out.lt
 refine ⟨_, rfl, hS3, ?_⟩
 simp only [Act.put, nB, nC, nD, nE, nF, nG]
 have B3 := B2.out.trans (b3.mono B2.out.size)
 refine x01 (j := 15) (by kernel_rfl) rfl (by rfl) ?_
 simp only [Act.put, nB, nC, nD, nE, nF, nG]
 refine x03 (by kernel_rfl) (x6P (H.out.below B3) (stateAt n gen) (areaOf n) hup hsa (by omega) hwt) ?_
 rintro e w4 ⟨v, rfl, hrow, b4⟩
 obtain ⟨A4, c4, rfl⟩ := x0H hrow
 rw [x3U] at hrow
 have hS4 := hS3.below b4 hS3.lt
 refine ⟨_, rfl, hS4, ?_⟩
 simp only [Act.put, nB, nC, nD, nE, nF, nG]
 refine tS (i := 16) (v := .tuple #[.slice A4 (areaOf n) c4, .nilIface]) rfl rfl (by kernel_rfl) (by rfl) (fun w hw => by kernel_rfl) hS4 ?_
 simp only [Act.put, nB, nC, nD, nE, nF, nG]
 refine tS (i := 17) (v := .slice A4 (areaOf n) c4) rfl rfl (by kernel_rfl) (by rfl) (fun w hw => by kernel_rfl) hS4 ?_
 simp only [Act.put, nB, nC, nD, nE, nF, nG]
 refine tS (i := 18) (v := .nilIface) rfl rfl (by kernel_rfl) (by rfl) (fun w hw => by kernel_rfl) hS4 ?_
 simp only [Act.put, nB, nC, nD, nE, nF, nG]
 refine x01 (j := 19) (by kernel_rfl) rfl (by rfl) ?_
 simp only [Act.put, nB, nC, nD, nE, nF, nG]
 refine x0Y (v := .slice A4 (areaOf n) c4) (by kernel_rfl) ⟨hS4, ?_⟩
 simp only [Act.put, nB, nC, nD, nE, nF, nG]
 refine x01 (j := 20) (by kernel_rfl) rfl (by rfl) ?_
 simp only [Act.put, nB, nC, nD, nE, nF, nG]
 refine x0Y (v := .nilIface) (by kernel_rfl) ⟨hS4, ?_⟩
 simp only [Act.put, nB, nC, nD, nE, nF, nG]
 refine x0V (by kernel_rfl) ?_
 refine NoPanic.normal ?_
 have J4 := kH hS4
 have B4 := kH (B3.trans (b4.mono B3.size))
 have R4 := kH (Reads.of_own hrow)
 clear hS0 hS3 hS4 hrow b3 b3' b4 B3
 go_wp2_with fail
 have hlen : (readL d (stateAt n gen) (areaOf n)).length = areaOf n := x2X _ _ _
 have hjo := xEC A4 c4 (readL d (stateAt n gen) (areaOf n)) gen st w4 (by rw [hlen]; exact R4.out) (by rw [hlen]; omega) (x0O HT.out B4.out hpos) (Nat.lt_of_lt_of_le hpos B4.out.size) hst (by rw [hlen]; exact hfit) hin
 rw [hlen] at hjo
 refine hjo.mono ?_
 rintro e w5 ⟨v, rfl, hown, b5⟩
 obtain ⟨B, cc, rfl⟩ := x0H hown
 have J5 := kH (J4.out.below b5 J4.out.lt)
 have HO := kH hown
 have B5 := kH (B4.out.trans (b5.mono B4.out.size))
 have hs4 := B4.out.size
 have H5 := kH ((H.out.below B4.out).more b5 (x17 hown))
 have hBb := x17 hown
 clear hown b5 hjo
 go_wp2_with (first
  | (refine x0J rfl 3 (.tmp 67) (.tmp 64) rfl gj 3 176 _ (.int .i64 gen) rfl rfl J5.out (by simp [jcells]) (by kernel_rfl) rfl ?_; intro wa hba hoa hsa1)
  | (refine x0J rfl 35 (.tmp 69) (.tmp 65) rfl gj 4 176 _ (.slice B st.length cc) rfl rfl hba (by simp [jcells]) (by kernel_rfl) rfl ?_; intro wb hbb hob hsb))
 go_ret
 have hon : Only [gj] w5 wb := hoa.trans hob (Fresh.refl _ _)
 have hgl := HJ.out.lt
 refine ⟨B, cc, rfl, H5.out.kept (by simp [hgj]) hon hgj0, fun k hk => by have := hBb k hk; omega, ?_, ?_, ?_, Nat.le_trans B5.out.size hon.size⟩
 ·simpa [jcells] using hbb
 ·exact x0A (x05 HO.out (w' := wb) (fun k hk => hon.block k (x02 HO.out k hk) (by have := x0I HO.out k hk; simp; omega))) hs4
 ·intro k hk hne
  rw [hon.block k (Nat.lt_of_lt_of_le hk B5.out.size) (by simpa using hne)]
  exact B5.out.block k hk
end
section
open Go.RowKit
noncomputable def standF (g : Int) (p : Nat) : List Sec -> Nat -> List Nat -> Option (List Nat × Nat)
 | [], _, _ => none
 | s :: l, k, tx => if isOf s.l 3 g ((p : Int) + (k : Int)) = true then standF g p l (k + 1) (tx ++ tD s.l) else if 0 < k /\ endOf s g ((p : Int) + (k : Int)) (k : Int) = true then some (tx, k + 1) else none
def StandTo (w : World) (o : Option (List Nat × Nat)) (e : Ending) (w' : World) : Prop := match o with
 | some (tx, m) => ∃ v, e = .returned (.tuple #[v, .int .i64 m]) /\ Own w' w.heap.size v tx.length tx /\ Below w.heap.size w w'
 | none => e = .returned (.tuple #[.slice none 0 0, .int .i64 0]) /\ Below w.heap.size w w'
set_option maxHeartbeats 4000000 in
theorem xDA (A : Option Addr) (c : Nat) (ss : List Sec) (gen : Int) (p : Nat) (w : World) (hR : Reads w w.heap.size 128 A ss.length (ss.flatMap Sec.cs)) (hl : ss.length <= 4096) (hp : p <= 4096) (hT : Tab w) (hpos : 0 < w.heap.size) :
  Calls Tryz.prog 181 #[.slice A ss.length c, .int .i64 gen, .int .i64 p] w (StandTo w (standF gen p ss 0 [])) := by
 obtain ⟨Zs, hz6, hzl⟩ : ∃ Zs : List Value, (∀ w, (zeroValue 66).run Tryz.prog w = .ok (.agg Zs.toArray) w) /\ Zs.length = 128 := ⟨_, x0U, Sec.cs_len _⟩
 have hus := Tryz.underlying66
 have hib : ∀ s : Sec, (Tryz.prog.info? 66).map (·.size) = some s.cs.length := fun s => by rw [Sec.cs_len]; exact x0W
 have HR := kH hR
 have HT := kH hT
 clear hR hT
 go_enter Tryz.func181, Tryz.ntmps181
 go_wp2
 go_loopg [8, 15] ss.length (fun gk v j wr => ∃ (k : Nat) (u : Value) (tx : List Nat), k <= ss.length /\ gk = ss.length - k /\ u = v /\ j = .int .i64 k /\ Below w.heap.size w wr /\ Own wr w.heap.size u tx.length tx /\ standF gen p (ss.drop k) k tx = standF gen p ss 0 [] /\ tx.length <= 106 * k)
 case atStart => exact ⟨0, _, [], by omega, by omega, rfl, rfl, Below.refl _ _, Own.nil w w.heap.size, by simp, by simp⟩
 case round =>
  obtain ⟨k, u, tx, hk, rfl, rfl, rfl, hb, hown, hst, htx⟩ := hrel
  by_cases hlt : k < ss.length
  ·obtain ⟨ad, s, rfl, hadb, hs, hc⟩ := x4C (HR.out.below hb) hlt
   have hdrop : ss.drop k = s :: ss.drop (k + 1) := by
    rw [List.drop_eq_getElem_cons hlt]
    congr 1
    exact Option.some.inj ((List.getElem?_eq_getElem hlt).symm.trans hs)
   rw [hdrop] at hst
   obtain ⟨Au, cu, rfl⟩ := x0H hown
   have BX := kH (Blk.new wr 66 s.cs.toArray)
   have BW := kH (hb.alloc hb.size (.cells s.cs.toArray 66))
   have HO := kH (hown.alloc (.cells s.cs.toArray 66))
   have HST := kH hst
   clear hb hs hdrop hown hst
   go_wp2_with (first
    | (refine x1S rfl 66 (.tmp 18) rfl _ rfl s.cs _ hc hus rfl (hib s) ?_)
    | (refine x07 rfl 66 (.tmp 10) (.tmp 19) rfl wr.heap.size rfl s.cs Zs.toArray rfl rfl (hib s) (by simp [Sec.cs_len, hzl]) s.one ?_)
    | (refine wpList_load_mid rfl 66 (.tmp 10) rfl wr.heap.size 0 rfl s.cs _ BX.out.range hus rfl (hib s) ?_))
   generalize hw5 : wr.alloc (.cells s.cs.toArray 66) = w5 at *
   generalize hgx : wr.heap.size = gx at *
   clear hw5 hgx hc
   cases his : isOf s.l 3 gen ((p : Int) + (k : Int)) with
   | true =>
    have hnx : standF gen p (ss.drop (k + 1)) (k + 1) (tx ++ tD s.l) = standF gen p ss 0 [] := by
     rw [<- HST.out]
     show _ = if isOf s.l 3 gen ((p : Int) + (k : Int)) = true then _ else _
     rw [if_pos his]
    have htl := x52 s.l
    have HNX := kH hnx
    refine (xDH s 3 gen ((p : Int) + (k : Int)) w5 (x0O HT.out BW.out hpos) his).mono ?_
    rintro e w6 ⟨A6, c6, rfl, ho6, b6⟩
    have BY := kH (ho6.bytes (x2N s.l s.lt))
    have HO6 := kH (x05 HO.out (w' := w6) (fun x hx => b6.block x (x02 HO.out x hx)))
    have B6 := kH (BW.out.trans (b6.mono BW.out.size))
    clear ho6 b6 his hnx
    go_wp2_with (at_builtin; refine x2U (.tmp 49) (.tmp 50) rfl rfl w.heap.size (.slice Au tx.length cu) tx.length tx rfl HO6.out w6.heap.size A6 (tD s.l).length c6 (tD s.l) rfl BY.out (by omega) B6.out.size ?_; intro v7 w7 h7 hg7 ha7)
    go_roundg (ss.length - (k + 1))
    case measure => omega
    case rel =>
     refine ⟨k + 1, v7, tx ++ tD s.l, by omega, rfl, rfl, by go_num, B6.out.grown hg7 B6.out.size (fun x hx => (World.ownsRow.lt HO6.out x hx).1), ?_, HNX.out, by rw [List.length_append]; omega⟩
     rw [List.length_append]
     exact h7
   | false =>
    refine (xND s 3 gen ((p : Int) + (k : Int)) w5 (x0O HT.out BW.out hpos) his).mono ?_
    rintro e w6 ⟨rfl, b6⟩
    have BX6 := kH (BX.out.below b6 BX.out.lt)
    have HO6 := kH (x05 HO.out (w' := w6) (fun x hx => b6.block x (x02 HO.out x hx)))
    have B6 := kH (BW.out.trans (b6.mono BW.out.size))
    have htop : standF gen p ss 0 [] = if 0 < k /\ endOf s gen ((p : Int) + (k : Int)) (k : Int) = true then some (tx, k + 1) else none := by
     rw [<- HST.out]
     show (if isOf s.l 3 gen ((p : Int) + (k : Int)) = true then _ else _) = _
     rw [if_neg (by rw [his]; exact Bool.false_ne_true)]
    have HTOP := kH htop
    clear b6 his htop
    by_cases hk0 : 0 < k
    ·have hc0 : (k : Int) > 0 := by omega
     go_wp2_with (refine x1H (by kernel_rfl) 66 (.tmp 10) rfl gx 0 rfl s.cs _ BX6.out.range hus rfl (hib s) ?_)
     refine (xMK s gen ((p : Int) + (k : Int)) (k : Int) w6 (x0O HT.out B6.out hpos)).mono ?_
     rintro e w7 ⟨rfl, b7⟩
     have B7 := kH (B6.out.trans (b7.mono B6.out.size))
     have HO7 := kH (x05 HO6.out (w' := w7) (fun x hx => b7.block x (x02 HO6.out x hx)))
     clear b7
     cases he : endOf s gen ((p : Int) + (k : Int)) (k : Int) with
     | true =>
      have hn : standF gen p ss 0 [] = some (tx, k + 1) := by rw [HTOP.out, if_pos ⟨hk0, he⟩]
      clear he
      go_wp2
      go_ret2
      rw [hn]
      exact ⟨_, by go_num, HO7.out, B7.out⟩
     | false =>
      have hn : standF gen p ss 0 [] = none := by rw [HTOP.out, if_neg (by rw [he]; simp)]
      clear he
      go_wp2
      go_ret2
      rw [hn]
      exact ⟨rfl, B7.out⟩
    ·have hc0 : ¬ (k : Int) > 0 := by omega
     have hn : standF gen p ss 0 [] = none := by rw [HTOP.out, if_neg (fun h => hk0 h.1)]
     go_wp2
     go_ret2
     rw [hn]
     exact ⟨rfl, B6.out⟩
  ·obtain rfl : k = ss.length := by omega
   rw [List.drop_length] at hst
   have hn : standF gen p ss 0 [] = none := hst.symm
   go_wp2
   go_ret2
   rw [hn]
   exact ⟨rfl, hb⟩
end
section
open Go.RowKit
noncomputable def LogIs (g : Int) (ss : List Sec) : Nat -> List (List Nat) -> Nat -> Prop
 | u, [], v => u = v /\ standF g u (ss.drop u) 0 [] = none
 | u, t :: l, v => ∃ m, standF g u (ss.drop u) 0 [] = some (t, m) /\ LogIs g ss (u + m) l v
theorem xAM {g : Int} {p : Nat} : ∀ (l : List Sec) (k : Nat) (tx t : List Nat) (m : Nat), standF g p l k tx = some (t, m) -> k < m /\ m <= k + l.length /\ t.length <= tx.length + 106 * l.length
 | [], k, tx, t, m, h => by cases h
 | s :: l, k, tx, t, m, h => by
  unfold standF at h
  split at h
  ·have h1 := xAM l (k + 1) _ t m h
   have h2 := x52 s.l
   simp only [List.length_append, List.length_cons] at h1 ⊢
   omega
  ·split at h
   ·injection h with h
    injection h with h1 h2
    subst h1 h2
    simp only [List.length_cons]
    omega
   ·cases h
theorem xBD : ∀ (ss : List Sec) (v : Nat), (ss.flatMap Sec.cs).drop (v * 128) = (ss.drop v).flatMap Sec.cs
 | ss, 0 => by simp
 | [], v + 1 => by simp
 | s :: ss, v + 1 => by
  rw [List.flatMap_cons, List.drop_succ_cons, <- xBD ss v, show (v + 1) * 128 = s.cs.length + v * 128 by rw [Sec.cs_len, Nat.add_mul]; omega, List.drop_append]
  simp
def TxRows (w : World) (base : Nat) (vt : Value) (txs : List (List Nat)) (us : List Value) : Prop :=
  w.ownsRow base 35 1 vt txs.length us /\ us.length = txs.length /\ ∀ (i : Nat) (tx : List Nat), txs[i]? = some tx -> ∃ B c, us[i]? = some (.slice B tx.length c) /\ Own w base (.slice B tx.length c) tx.length tx
def txBlks (vt : Value) (us : List Value) : List Nat := rowOf vt ++ us.flatMap rowOf
theorem TxRows.of {w w' : World} {base : Nat} {vt : Value} {txs : List (List Nat)} {us : List Value} (h : TxRows w base vt txs us) (hk : ∀ k ∈ txBlks vt us, w'.heap[k]? = w.heap[k]?) : TxRows w' base vt txs us := by
 refine ⟨x05 h.1 (fun k hk' => hk k (List.mem_append_left _ hk')), h.2.1, fun i tx hi => ?_⟩
 obtain ⟨B, c, h1, h2⟩ := h.2.2 i tx hi
 exact ⟨B, c, h1, x05 h2 (fun k hk' => hk k (List.mem_append_right _ (List.mem_flatMap.2 ⟨_, List.mem_of_getElem? h1, hk'⟩)))⟩
theorem TxRows.weaken {w : World} {base base' : Nat} {vt : Value} {txs : List (List Nat)} {us : List Value} (h : TxRows w base vt txs us) (hb : base' <= base) : TxRows w base' vt txs us :=
 ⟨x0A h.1 hb, h.2.1, fun i tx hi => by
  obtain ⟨B, c, h1, h2⟩ := h.2.2 i tx hi
  exact ⟨B, c, h1, h2.weaken hb⟩⟩
theorem TxRows.item {w : World} {base : Nat} {vt : Value} {txs : List (List Nat)} {us : List Value} (h : TxRows w base vt txs us) {u : Value} (hu : u ∈ us) : ∃ B c tx, u = .slice B (List.length tx) c /\ tx ∈ txs /\ Own w base (.slice B tx.length c) tx.length tx := by
 obtain ⟨i, hi, rfl⟩ := List.mem_iff_getElem.1 hu
 have hx : txs[i]? = some (txs[i]'(by have := h.2.1; omega)) := List.getElem?_eq_getElem _
 obtain ⟨B, c, h1, h2⟩ := h.2.2 i _ hx
 rw [List.getElem?_eq_getElem hi] at h1
 injection h1 with h1
 exact ⟨B, c, _, h1, List.getElem_mem _, h2⟩
theorem TxRows.over {w : World} {base : Nat} {vt : Value} {txs : List (List Nat)} {us : List Value} (h : TxRows w base vt txs us) : ∀ k ∈ txBlks vt us, base <= k /\ k < w.heap.size := fun k hk => by
 rcases List.mem_append.1 hk with hk | hk
 ·exact World.ownsRow.lt h.1 k (x00.1 hk)
 ·obtain ⟨u, hu, hk⟩ := List.mem_flatMap.1 hk
  obtain ⟨B, c, tx, rfl, _, ho⟩ := h.item hu
  exact World.ownsRow.lt ho k (x00.1 hk)
theorem TxRows.nil (w : World) (base : Nat) : TxRows w base (.slice none 0 0) [] [] := ⟨World.ownsRow_nil w base _ 1, rfl, fun i tx h => by simp at h⟩
theorem x5V {w : World} {b1 b2 n1 n2 s1 s2 : Nat} {e1 e2 : TypeId} {v1 v2 : Value} {x1 x2 : List Value} (h1 : w.ownsRow b1 e1 s1 v1 n1 x1) (h2 : w.ownsRow b2 e2 s2 v2 n2 x2) (hne : e1 ≠ e2) : ∀ k ∈ rowOf v1, v2.ownBlock ≠ some k := by
 intro k hk
 rcases h1.2 with ⟨rfl, _⟩ | ⟨g', cap, cur, rfl, _, hh, _⟩
 ·have := x00.1 hk; simp [Value.ownBlock] at this
 ·have hg : k = g' := by have := x00.1 hk; simp [Value.ownBlock] at this; exact this.symm
  subst hg
  exact x10 h2 (show Blk w k e1 cur from hh) (Ne.symm hne)
theorem x4S (A : Option Addr) (n c : Nat) : rowOf (.slice A n c) ⊆ blkOf A := by
 intro k hk
 have := x00.1 hk
 cases A with
 | none => simp [Value.ownBlock] at this
 | some ad =>
  simp only [Value.ownBlock] at this
  simp only [blkOf, List.mem_singleton]
  injection this with this
  exact this.symm
theorem TxRows.snoc {w w' : World} {base : Nat} {vt vt' : Value} {txs : List (List Nat)} {us : List Value} (h : TxRows w base vt txs us) {tx : List Nat} {B : Option Addr} {c : Nat} (ho : Own w base (.slice B tx.length c) tx.length tx) (hg : w.grownBy w' vt.ownBlock) (hr : w'.ownsRow base 35 1 vt' (txs.length + 1) (us ++ [.slice B tx.length c])) : TxRows w' base vt' (txs ++ [tx]) (us ++ [.slice B tx.length c]) := by
 have hown : ∀ {v : Value} {n : Nat} {bs : List Nat}, Own w base v n bs -> Own w' base v n bs := fun {v n bs} hv => x05 hv fun k hk => hg.block k (World.ownsRow.lt hv k (x00.1 hk)).2 (fun e => x5V hv h.1 (by decide) k hk e.symm)
 refine ⟨by rw [List.length_append]; exact hr, by simp [h.2.1], fun i t hi => ?_⟩
 by_cases hlt : i < txs.length
 ·rw [List.getElem?_append_left hlt] at hi
  obtain ⟨B', c', h1, h2⟩ := h.2.2 i t hi
  exact ⟨B', c', by rw [List.getElem?_append_left (by have := h.2.1; omega)]; exact h1, hown h2⟩
 ·rw [List.getElem?_append_right (by omega)] at hi
  have h0 : i - txs.length = 0 := by
   rcases Nat.eq_zero_or_pos (i - txs.length) with h0 | h0
   ·exact h0
   ·rw [List.getElem?_eq_none (by simp; omega)] at hi; cases hi
  rw [h0] at hi
  simp at hi
  subst hi
  exact ⟨B, c, by rw [List.getElem?_append_right (by have := h.2.1; omega), h.2.1, h0]; rfl, hown ho⟩
theorem xCL (A : Option Addr) (m c k : Nat) (hk : k <= m) (w : World) : (Instr.slice 179 (.slice A m c) (some (.int .i64 k)) none none).run Tryz.prog w = .ok (.slice (if c = k then A else A.map (·.add (k * 128))) (m - k) (c - k)) w := by
 have hsz : ∀ w, (sizeOf (Tryz.prog.elem 179)).run Tryz.prog w = .ok 128 w := fun w => by kernel_rfl
 rw [run_slice_l w 179 A m c (by kernel_rfl) .i64 k (by omega) (by omega), hsz]
 simp only [Result.andThen, sliced, Int.toNat_natCast]
set_option maxHeartbeats 8000000 in
theorem xDV {w0 w : World} {g gj n gen : Nat} {vs : Value} {d : DM} {X : List Nat} (h : Holds w0 w g d X) (hJ : Blk w gj 176 (jcells n g gen vs (.slice none 0 0) 0 false)) (hgj : gj ∈ X) (hgj0 : w0.heap.size <= gj) (hdn : d.n = n) (hn : n <= 4096) (hn8 : 8 <= n) (hup : d.gone = false) (hwt : d.wait.length <= 1000000)
  (hT : Tab w) (hw0 : 0 < w0.heap.size) (txs : List (List Nat)) (u : Nat) (hlog : LogIs gen (readL d (logAt n) (logOf n)) 0 txs u) :
  Calls Tryz.prog 119 #[.pointer (some ⟨gj, 0, none⟩)] w fun e w' => ∃ vt us, e = .returned .nilIface /\ Holds w0 w' g d (txBlks vt us ++ X) /\ (∀ k ∈ txBlks vt us, w.heap.size <= k) /\ Blk w' gj 176 (jcells n g gen vs vt u false) /\ TxRows w' w.heap.size vt txs us /\ (∀ k, k < w.heap.size -> k ≠ gj -> w'.heap[k]? = w.heap[k]?) /\ w.heap.size <= w'.heap.size := by
 have hpos : 0 < w.heap.size := Nat.lt_of_lt_of_le hw0 h.size
 have hsa : logAt n + logOf n <= d.n := by
  rw [hdn]
  unfold logAt logOf areaOf
  omega
 have hlo : logOf n <= 4096 := by unfold logOf; omega
 have hgl := hJ.lt
 have H := kH h
 have HJ := kH hJ
 have HT := kH hT
 have HLOG := kH hlog
 clear h hJ hT hlog
 have hul := Tryz.underlying173
 go_enter Tryz.func119, Tryz.ntmps119
 go_wp2
 have hS0 : Blk w.drew gj 176 (jcells n g gen vs (.slice none 0 0) 0 false) := HJ.out
 refine x09 (fun w' => Blk w' gj 176 (jcells n g gen vs (.slice none 0 0) 0 false)) 99 (by kernel_rfl) ?_
 refine tS (i := 0) (v := .pointer (some ⟨gj, 0, none⟩)) rfl rfl (by kernel_rfl) (by rfl) (fun w hw => by kernel_rfl) hS0 ?_
 simp only [Act.put, nB, nC, nD, nE, nF, nG]
 refine tS (i := 1) (v := .pointer (some ⟨gj, 0, none⟩)) rfl rfl (by kernel_rfl) (by rfl) (fun w hw => by go_simp) hS0 ?_
 simp only [Act.put, nB, nC, nD, nE, nF, nG]
 refine tS (i := 2) (v := .pointer (some ⟨gj, 2, none⟩)) rfl rfl (by kernel_rfl) (by rfl) (fun w hw => by kernel_rfl) hS0 ?_
 simp only [Act.put, nB, nC, nD, nE, nF, nG]
 refine tS (i := 3) (v := .pointer (some ⟨g, 0, none⟩)) rfl rfl (by kernel_rfl) (by rfl) (fun w hw => by have q : w.cell? ⟨_, 2, none⟩ = some (.pointer (some ⟨g, 0, none⟩)) := hw.cell 2; go_simp) hS0 ?_
 simp only [Act.put, nB, nC, nD, nE, nF, nG]
 refine tS (i := 4) (v := .pointer (some ⟨gj, 0, none⟩)) rfl rfl (by kernel_rfl) (by rfl) (fun w hw => by kernel_rfl) hS0 ?_
 simp only [Act.put, nB, nC, nD, nE, nF, nG]
 refine tS (i := 5) (v := .pointer (some ⟨gj, 0, none⟩)) rfl rfl (by kernel_rfl) (by rfl) (fun w hw => by go_simp) hS0 ?_
 simp only [Act.put, nB, nC, nD, nE, nF, nG]
 refine tS (i := 6) (v := .pointer (some ⟨gj, 0, none⟩)) rfl rfl (by kernel_rfl) (by rfl) (fun w hw => by kernel_rfl) hS0 ?_
 simp only [Act.put, nB, nC, nD, nE, nF, nG]
 refine tS (i := 7) (v := .agg [.int .i64 (areaOf n), .int .i64 (logOf n)].toArray) rfl rfl (by kernel_rfl) (by rfl) (fun w hw => x2G 173 (.tmp 14) rfl gj 0 rfl _ _ (x2D hw) hul rfl x2K) hS0 ?_
 simp only [Act.put, nB, nC, nD, nE, nF, nG]
 refine tS (i := 9) (v := .pointer (some ⟨gj, 0, none⟩)) rfl rfl (by kernel_rfl) (by rfl) (fun w hw => by kernel_rfl) hS0 ?_
 simp only [Act.put, nB, nC, nD, nE, nF, nG]
 refine tS (i := 10) (v := .pointer (some ⟨gj, 0, none⟩)) rfl rfl (by kernel_rfl) (by rfl) (fun w hw => by go_simp) hS0 ?_
 simp only [Act.put, nB, nC, nD, nE, nF, nG]
 refine tS (i := 11) (v := .pointer (some ⟨gj, 0, none⟩)) rfl rfl (by kernel_rfl) (by rfl) (fun w hw => by kernel_rfl) hS0 ?_
 simp only [Act.put, nB, nC, nD, nE, nF, nG]
 refine tS (i := 12) (v := .pointer (some ⟨gj, 1, none⟩)) rfl rfl (by kernel_rfl) (by rfl) (fun w hw => by kernel_rfl) hS0 ?_
 simp only [Act.put, nB, nC, nD, nE, nF, nG]
 refine tS (i := 13) (v := .int .i64 (logOf n)) rfl rfl (by kernel_rfl) (by rfl) (fun w hw => by have q : w.cell? ⟨_, 1, none⟩ = some (.int .i64 (logOf n)) := hw.cell 1; go_simp) hS0 ?_
 simp only [Act.put, nB, nC, nD, nE, nF, nG]
 refine x01 (j := 8) (by kernel_rfl) rfl (by rfl) ?_
 simp only [Act.put, nB, nC, nD, nE, nF, nG]
 refine x03 (by kernel_rfl) (x6U n w.drew hn) ?_
 rintro e w3 ⟨rfl, b3'⟩
 have b3 := x0K b3'
 have hS3 := HJ.out.below b3 HJ.out.lt
 refine ⟨_, rfl, hS3, ?_⟩
 simp only [Act.put, nB, nC, nD, nE, nF, nG]
 refine x01 (j := 14) (by kernel_rfl) rfl (by rfl) ?_
 simp only [Act.put, nB, nC, nD, nE, nF, nG]
 refine x03 (by kernel_rfl) (x6P (H.out.below b3) (logAt n) (logOf n) hup hsa (by omega) hwt) ?_
 rintro e w4 ⟨v, rfl, hrow, b4⟩
 obtain ⟨A4, c4, rfl⟩ := x0H hrow
 rw [x3U] at hrow
 have hS4 := hS3.below b4 hS3.lt
 refine ⟨_, rfl, hS4, ?_⟩
 simp only [Act.put, nB, nC, nD, nE, nF, nG]
 refine tS (i := 15) (v := .tuple #[.slice A4 (logOf n) c4, .nilIface]) rfl rfl (by kernel_rfl) (by rfl) (fun w hw => by kernel_rfl) hS4 ?_
 simp only [Act.put, nB, nC, nD, nE, nF, nG]
 refine tS (i := 16) (v := .slice A4 (logOf n) c4) rfl rfl (by kernel_rfl) (by rfl) (fun w hw => by kernel_rfl) hS4 ?_
 simp only [Act.put, nB, nC, nD, nE, nF, nG]
 refine tS (i := 17) (v := .nilIface) rfl rfl (by kernel_rfl) (by rfl) (fun w hw => by kernel_rfl) hS4 ?_
 simp only [Act.put, nB, nC, nD, nE, nF, nG]
 refine x01 (j := 18) (by kernel_rfl) rfl (by rfl) ?_
 simp only [Act.put, nB, nC, nD, nE, nF, nG]
 refine x0Y (v := .slice A4 (logOf n) c4) (by kernel_rfl) ⟨hS4, ?_⟩
 simp only [Act.put, nB, nC, nD, nE, nF, nG]
 refine x01 (j := 19) (by kernel_rfl) rfl (by rfl) ?_
 simp only [Act.put, nB, nC, nD, nE, nF, nG]
 refine x0Y (v := .nilIface) (by kernel_rfl) ⟨hS4, ?_⟩
 simp only [Act.put, nB, nC, nD, nE, nF, nG]
 refine x0V (by kernel_rfl) ?_
 refine NoPanic.normal ?_
 have J4 := kH hS4
 have B4 := kH (b3.trans (b4.mono b3.size))
 have R4 := kH (x0A hrow b3.size)
 have hlen : (readL d (logAt n) (logOf n)).length = logOf n := x2X _ _ _
 have hcap : logOf n <= c4 := by
  rcases hrow.2 with ⟨hv, h0⟩ | ⟨gw, cap', cur, hv, _, _, hnc, _⟩
  ·injection hv with h1 h2 h3; omega
  ·injection hv with h1 h2 h3; omega
 clear hS0 hS3 hS4 hrow b3 b3' b4
 go_wp2
 generalize hss : readL d (logAt n) (logOf n) = ss at *
 have hrd : (List.map (readRow d (logAt n) (logOf n)) (List.range (logOf n))) = ss := hss
 rw [hrd] at R4
 clear hrd hss
 have HLEN := kH hlen
 clear hlen
 go_loopg [5, 6] txs.length (fun gk x y wr => ∃ (done rest : List (List Nat)) (v : Nat) (vt : Value) (us : List Value), gk = rest.length /\ done ++ rest = txs /\ LogIs gen ss v rest u /\ v <= logOf n /\ done.length <= v /\ Holds w0 wr g d (txBlks vt us ++ X) /\ Blk wr gj 176 (jcells n g gen vs vt v false) /\ TxRows wr w.heap.size vt done us /\ (∀ k, k < w.heap.size -> k ≠ gj -> wr.heap[k]? = w.heap[k]?) /\ w.heap.size <= wr.heap.size /\ wr.ownsRow w.heap.size 66 128 (.slice A4 (logOf n) c4) (logOf n) (ss.flatMap Sec.cs))
 case atStart => exact ⟨[], txs, 0, _, [], rfl, rfl, HLOG.out, by omega, by simp, (H.out.below B4.out).mono (fun k hk => by simpa [txBlks, rowOf, Value.ownBlock] using hk), J4.out, TxRows.nil _ _, fun k hk _ => B4.out.block k hk, B4.out.size, R4.out⟩
 case round =>
  obtain ⟨done, rest, v, vt, us, rfl, hdone, hlg, hv, hdv, hh, hj, htx, hkeep, hsz, hrow⟩ := hrel
  have hgw0 : 0 ≠ gj := by omega
  have htab : Tab wr := fun i hi => (World.cell?_of_block (hkeep 0 hpos hgw0)).trans (HT.out i hi)
  have hcut := (Reads.of_own hrow).cut (k := v) (cap := c4) hv hcap
  have hfd : (ss.drop v).length = logOf n - v := by rw [List.length_drop, HLEN.out]
  have hcut2 : Reads wr wr.heap.size 128 (if c4 = v then A4 else A4.map (·.add (v * 128))) (ss.drop v).length ((ss.drop v).flatMap Sec.cs) := by
   rw [hfd, show (ss.drop v).flatMap Sec.cs = (ss.flatMap Sec.cs).drop (v * 128) from (xBD ss v).symm]
   exact hcut
  have hst := xDA _ (c4 - v) (ss.drop v) gen v wr.drew hcut2.drew (by rw [hfd]; omega) (by omega) htab (by show 0 < wr.heap.size; omega)
  rw [hfd] at hst
  generalize hAc : (if c4 = v then A4 else A4.map (·.add (v * 128))) = Ac at *
  have hsl : ∀ w, (Instr.slice 179 (.slice A4 (logOf n) c4) (some (.int .i64 v)) none none).run Tryz.prog w = .ok (.slice Ac (logOf n - v) (c4 - v)) w := fun w => by rw [<- hAc]; exact xCL A4 (logOf n) c4 v hv w
  clear hAc hcut hcut2
  have HST := kH hst
  have HSL := kH hsl
  have HDONE := kH hdone
  have HH := kH hh
  have HJR := kH hj
  have HTX := kH htx
  have HKEEP := kH hkeep
  have HROW := kH hrow
  have HTAB := kH htab
  clear hst hsl hdone hh hj htx hkeep hrow htab hfd
  have hls := hlg
  cases rest with
  | nil =>
   have hvu := hlg.1
   subst hvu
   go_wp2
   have hS5 : Blk wr.drew gj 176 (jcells n g gen vs vt v false) := HJR.out
   refine x09 (fun w' => Blk w' gj 176 (jcells n g gen vs vt v false)) 99 (by kernel_rfl) ?_
   refine tS (i := 0) (v := .slice A4 (logOf n) c4) rfl rfl (by kernel_rfl) (by rfl) (fun w hw => by kernel_rfl) hS5 ?_
   simp only [Act.put, nB, nC, nD, nE, nF, nG]
   refine tS (i := 1) (v := .pointer (some ⟨gj, 0, none⟩)) rfl rfl (by kernel_rfl) (by rfl) (fun w hw => by kernel_rfl) hS5 ?_
   simp only [Act.put, nB, nC, nD, nE, nF, nG]
   refine tS (i := 2) (v := .pointer (some ⟨gj, 0, none⟩)) rfl rfl (by kernel_rfl) (by rfl) (fun w hw => by go_simp) hS5 ?_
   simp only [Act.put, nB, nC, nD, nE, nF, nG]
   refine tS (i := 3) (v := .pointer (some ⟨gj, 6, none⟩)) rfl rfl (by kernel_rfl) (by rfl) (fun w hw => by kernel_rfl) hS5 ?_
   simp only [Act.put, nB, nC, nD, nE, nF, nG]
   refine tS (i := 4) (v := .int .i64 v) rfl rfl (by kernel_rfl) (by rfl) (fun w hw => by have q : w.cell? ⟨_, 6, none⟩ = some (.int .i64 v) := hw.cell 6; go_simp) hS5 ?_
   simp only [Act.put, nB, nC, nD, nE, nF, nG]
   refine tS (i := 5) (v := .slice Ac (logOf n - v) (c4 - v)) rfl rfl (by kernel_rfl) (by rfl) (fun w hw => by have q := HSL.out w; go_simp) hS5 ?_
   simp only [Act.put, nB, nC, nD, nE, nF, nG]
   refine tS (i := 6) (v := .pointer (some ⟨gj, 0, none⟩)) rfl rfl (by kernel_rfl) (by rfl) (fun w hw => by kernel_rfl) hS5 ?_
   simp only [Act.put, nB, nC, nD, nE, nF, nG]
   refine tS (i := 7) (v := .pointer (some ⟨gj, 0, none⟩)) rfl rfl (by kernel_rfl) (by rfl) (fun w hw => by go_simp) hS5 ?_
   simp only [Act.put, nB, nC, nD, nE, nF, nG]
   refine tS (i := 8) (v := .pointer (some ⟨gj, 3, none⟩)) rfl rfl (by kernel_rfl) (by rfl) (fun w hw => by kernel_rfl) hS5 ?_
   simp only [Act.put, nB, nC, nD, nE, nF, nG]
   refine tS (i := 9) (v := .int .i64 gen) rfl rfl (by kernel_rfl) (by rfl) (fun w hw => by have q : w.cell? ⟨_, 3, none⟩ = some (.int .i64 gen) := hw.cell 3; go_simp) hS5 ?_
   simp only [Act.put, nB, nC, nD, nE, nF, nG]
   refine tS (i := 10) (v := .pointer (some ⟨gj, 0, none⟩)) rfl rfl (by kernel_rfl) (by rfl) (fun w hw => by kernel_rfl) hS5 ?_
   simp only [Act.put, nB, nC, nD, nE, nF, nG]
   refine tS (i := 11) (v := .pointer (some ⟨gj, 0, none⟩)) rfl rfl (by kernel_rfl) (by rfl) (fun w hw => by go_simp) hS5 ?_
   simp only [Act.put, nB, nC, nD, nE, nF, nG]
   refine tS (i := 12) (v := .pointer (some ⟨gj, 6, none⟩)) rfl rfl (by kernel_rfl) (by rfl) (fun w hw => by kernel_rfl) hS5 ?_
   simp only [Act.put, nB, nC, nD, nE, nF, nG]
   refine tS (i := 13) (v := .int .i64 v) rfl rfl (by kernel_rfl) (by rfl) (fun w hw => by have q : w.cell? ⟨_, 6, none⟩ = some (.int .i64 v) := hw.cell 6; go_simp) hS5 ?_
   simp only [Act.put, nB, nC, nD, nE, nF, nG]
   refine x01 (j := 14) (by kernel_rfl) rfl (by rfl) ?_
   simp only [Act.put, nB, nC, nD, nE, nF, nG]
   refine x03 (by kernel_rfl) HST.out ?_
   rintro e w5 hto
   rw [hlg.2] at hto
   obtain ⟨rfl, b5'⟩ := hto
   have b5 := x0K b5'
   have hS6 := HJR.out.below b5 HJR.out.lt
   refine ⟨_, rfl, hS6, ?_⟩
   simp only [Act.put, nB, nC, nD, nE, nF, nG]
   refine tS (i := 15) (v := .tuple #[.slice none 0 0, .int .i64 0]) rfl rfl (by kernel_rfl) (by rfl) (fun w hw => by kernel_rfl) hS6 ?_
   simp only [Act.put, nB, nC, nD, nE, nF, nG]
   refine tS (i := 16) (v := .slice none 0 0) rfl rfl (by kernel_rfl) (by rfl) (fun w hw => by kernel_rfl) hS6 ?_
   simp only [Act.put, nB, nC, nD, nE, nF, nG]
   refine tS (i := 17) (v := .int .i64 0) rfl rfl (by kernel_rfl) (by rfl) (fun w hw => by kernel_rfl) hS6 ?_
   simp only [Act.put, nB, nC, nD, nE, nF, nG]
   refine x01 (j := 18) (by kernel_rfl) rfl (by rfl) ?_
   simp only [Act.put, nB, nC, nD, nE, nF, nG]
   refine x0Y (v := .slice none 0 0) (by kernel_rfl) ⟨hS6, ?_⟩
   simp only [Act.put, nB, nC, nD, nE, nF, nG]
   refine x01 (j := 19) (by kernel_rfl) rfl (by rfl) ?_
   simp only [Act.put, nB, nC, nD, nE, nF, nG]
   refine x0Y (v := .int .i64 0) (by kernel_rfl) ⟨hS6, ?_⟩
   simp only [Act.put, nB, nC, nD, nE, nF, nG]
   refine x0V (by kernel_rfl) ?_
   refine NoPanic.normal ?_
   have HJ6 := kH hS6
   have B6 := kH b5
   clear hS5 hS6 b5 b5' hlg hls
   go_wp2
   go_ret
   have hdd := HDONE.out
   rw [List.append_nil] at hdd
   subst hdd
   exact ⟨vt, us, rfl, HH.out.below B6.out, fun k hk => (HTX.out.over k hk).1, HJ6.out, HTX.out.of (fun k hk => B6.out.block k (HTX.out.over k hk).2), fun k hk hne => (B6.out.block k (Nat.lt_of_lt_of_le hk hsz)).trans (HKEEP.out k hk hne), Nat.le_trans hsz B6.out.size⟩
  | cons t rest' =>
   obtain ⟨m, hs1, hs2⟩ := hlg
   have hmb := xAM _ _ _ _ _ hs1
   rw [List.length_drop, HLEN.out] at hmb
   simp only [List.length_nil] at hmb
   go_wp2
   have hS5 : Blk wr.drew gj 176 (jcells n g gen vs vt v false) := HJR.out
   refine x09 (fun w' => Blk w' gj 176 (jcells n g gen vs vt v false)) 99 (by kernel_rfl) ?_
   refine tS (i := 0) (v := .slice A4 (logOf n) c4) rfl rfl (by kernel_rfl) (by rfl) (fun w hw => by kernel_rfl) hS5 ?_
   simp only [Act.put, nB, nC, nD, nE, nF, nG]
   refine tS (i := 1) (v := .pointer (some ⟨gj, 0, none⟩)) rfl rfl (by kernel_rfl) (by rfl) (fun w hw => by kernel_rfl) hS5 ?_
   simp only [Act.put, nB, nC, nD, nE, nF, nG]
   refine tS (i := 2) (v := .pointer (some ⟨gj, 0, none⟩)) rfl rfl (by kernel_rfl) (by rfl) (fun w hw => by go_simp) hS5 ?_
   simp only [Act.put, nB, nC, nD, nE, nF, nG]
   refine tS (i := 3) (v := .pointer (some ⟨gj, 6, none⟩)) rfl rfl (by kernel_rfl) (by rfl) (fun w hw => by kernel_rfl) hS5 ?_
   simp only [Act.put, nB, nC, nD, nE, nF, nG]
   refine tS (i := 4) (v := .int .i64 v) rfl rfl (by kernel_rfl) (by rfl) (fun w hw => by have q : w.cell? ⟨_, 6, none⟩ = some (.int .i64 v) := hw.cell 6; go_simp) hS5 ?_
   simp only [Act.put, nB, nC, nD, nE, nF, nG]
   refine tS (i := 5) (v := .slice Ac (logOf n - v) (c4 - v)) rfl rfl (by kernel_rfl) (by rfl) (fun w hw => by have q := HSL.out w; go_simp) hS5 ?_
   simp only [Act.put, nB, nC, nD, nE, nF, nG]
   refine tS (i := 6) (v := .pointer (some ⟨gj, 0, none⟩)) rfl rfl (by kernel_rfl) (by rfl) (fun w hw => by kernel_rfl) hS5 ?_
   simp only [Act.put, nB, nC, nD, nE, nF, nG]
   refine tS (i := 7) (v := .pointer (some ⟨gj, 0, none⟩)) rfl rfl (by kernel_rfl) (by rfl) (fun w hw => by go_simp) hS5 ?_
   simp only [Act.put, nB, nC, nD, nE, nF, nG]
   refine tS (i := 8) (v := .pointer (some ⟨gj, 3, none⟩)) rfl rfl (by kernel_rfl) (by rfl) (fun w hw => by kernel_rfl) hS5 ?_
   simp only [Act.put, nB, nC, nD, nE, nF, nG]
   refine tS (i := 9) (v := .int .i64 gen) rfl rfl (by kernel_rfl) (by rfl) (fun w hw => by have q : w.cell? ⟨_, 3, none⟩ = some (.int .i64 gen) := hw.cell 3; go_simp) hS5 ?_
   simp only [Act.put, nB, nC, nD, nE, nF, nG]
   refine tS (i := 10) (v := .pointer (some ⟨gj, 0, none⟩)) rfl rfl (by kernel_rfl) (by rfl) (fun w hw => by kernel_rfl) hS5 ?_
   simp only [Act.put, nB, nC, nD, nE, nF, nG]
   refine tS (i := 11) (v := .pointer (some ⟨gj, 0, none⟩)) rfl rfl (by kernel_rfl) (by rfl) (fun w hw => by go_simp) hS5 ?_
   simp only [Act.put, nB, nC, nD, nE, nF, nG]
   refine tS (i := 12) (v := .pointer (some ⟨gj, 6, none⟩)) rfl rfl (by kernel_rfl) (by rfl) (fun w hw => by kernel_rfl) hS5 ?_
   simp only [Act.put, nB, nC, nD, nE, nF, nG]
   refine tS (i := 13) (v := .int .i64 v) rfl rfl (by kernel_rfl) (by rfl) (fun w hw => by have q : w.cell? ⟨_, 6, none⟩ = some (.int .i64 v) := hw.cell 6; go_simp) hS5 ?_
   simp only [Act.put, nB, nC, nD, nE, nF, nG]
   refine x01 (j := 14) (by kernel_rfl) rfl (by rfl) ?_
   simp only [Act.put, nB, nC, nD, nE, nF, nG]
   refine x03 (by kernel_rfl) HST.out ?_
   rintro e w5 hto
   rw [hs1] at hto
   obtain ⟨v5, rfl, hown, b5'⟩ := hto
   have b5 := x0K b5'
   obtain ⟨B5, c5, rfl⟩ := x0H hown
   have hS6 := HJR.out.below b5 HJR.out.lt
   refine ⟨_, rfl, hS6, ?_⟩
   simp only [Act.put, nB, nC, nD, nE, nF, nG]
   refine tS (i := 15) (v := .tuple #[.slice B5 t.length c5, .int .i64 m]) rfl rfl (by kernel_rfl) (by rfl) (fun w hw => by kernel_rfl) hS6 ?_
   simp only [Act.put, nB, nC, nD, nE, nF, nG]
   refine tS (i := 16) (v := .slice B5 t.length c5) rfl rfl (by kernel_rfl) (by rfl) (fun w hw => by kernel_rfl) hS6 ?_
   simp only [Act.put, nB, nC, nD, nE, nF, nG]
   refine tS (i := 17) (v := .int .i64 m) rfl rfl (by kernel_rfl) (by rfl) (fun w hw => by kernel_rfl) hS6 ?_
   simp only [Act.put, nB, nC, nD, nE, nF, nG]
   refine x01 (j := 18) (by kernel_rfl) rfl (by rfl) ?_
   simp only [Act.put, nB, nC, nD, nE, nF, nG]
   refine x0Y (v := .slice B5 t.length c5) (by kernel_rfl) ⟨hS6, ?_⟩
   simp only [Act.put, nB, nC, nD, nE, nF, nG]
   refine x01 (j := 19) (by kernel_rfl) rfl (by rfl) ?_
   simp only [Act.put, nB, nC, nD, nE, nF, nG]
   refine x0Y (v := .int .i64 m) (by kernel_rfl) ⟨hS6, ?_⟩
   simp only [Act.put, nB, nC, nD, nE, nF, nG]
   refine x0V (by kernel_rfl) ?_
   refine NoPanic.normal ?_
   have hdr : wr.drew.heap.size = wr.heap.size := rfl
   rw [hdr] at hown
   have HJ6 := kH hS6
   have B6 := kH b5
   have HO6 := kH hown
   have HLS := kH hs2
   have T6 := kH (HTX.out.of (fun k hk => b5.block k (HTX.out.over k hk).2))
   have R6 := kH (x05 HROW.out (fun k hk => b5.block k (x02 HROW.out k hk)))
   have H6 := kH ((HH.out.more b5 (x17 hown)))
   have hm0 : ((m : Int) == 0) = false := by simp; omega
   have hm0' : (m == 0) = false := by simp; omega
   clear hS5 hS6 b5 b5' hown hs1 hs2 hls
   have q5 : w5.cell? ⟨gj, 5, none⟩ = some vt := HJ6.out.cell 5
   have J11 := HJ6.out.alloc (.cells #[.slice B5 t.length c5] 35)
   have hrc := Reads.new w5 [.slice B5 t.length c5] 35 (0, 0)
   have T11 := T6.out.of (w' := w5.alloc (.cells #[.slice B5 t.length c5] 35)) (fun k hk => Below.heap_alloc w5 _ k (T6.out.over k hk).2)
   have O11 := (HO6.out.weaken hsz).alloc (.cells #[.slice B5 t.length c5] 35)
   have R11 := World.ownsRow.alloc R6.out (.cells #[.slice B5 t.length c5] 35)
   have H11 := H6.out.alloc (.cells #[.slice B5 t.length c5] 35)
   have hblk11 : ∀ k, k < w5.heap.size -> (w5.alloc (.cells #[.slice B5 t.length c5] 35)).heap[k]? = w5.heap[k]? := fun k hk => Below.heap_alloc w5 _ k hk
   have hsz11 : (w5.alloc (.cells #[.slice B5 t.length c5] 35)).heap.size = w5.heap.size + 1 := by simp
   have hs5' := B6.out.size
   obtain ⟨iy, hiy0, hiy1, hiy2, hiy3⟩ := info_parts x81
   have HINFO := kH (kA hiy0 (kA hiy1 (kA hiy2 hiy3)))
   have HT11 := kH T11
   have HO11 := kH O11
   have HR11 := kH R11
   have HH11 := kH H11
   have HJ11 := kH J11
   have HB11 := kH hblk11
   have HRC := kH hrc
   have HSZ := kH hsz11
   clear T11 O11 R11 H11 J11 hblk11 hrc hsz11 hiy0 hiy1 hiy2 hiy3
   go_wp2_with (first
    | (at_builtin; (refine x0X _ rfl (.tmp 52) (.tmp 54) 42 rfl w.heap.size 35 iy _ 1 24 Tryz.underlying42 HINFO.out.1 HINFO.out.2.1 HINFO.out.2.2.1 HINFO.out.2.2.2 rfl (by omega) vt done.length us rfl HT11.out.1 _ (some ⟨w5.heap.size, 0, none⟩) 1 1 [.slice B5 t.length c5] rfl HRC.out (fun u hu => by simp at hu; subst hu; rfl) (by simp only [maxLen]; omega) (by omega) (by rw [HSZ.out]; omega) ?_; intro v2 w11 hU3 hgr hat; obtain ⟨A2, c2, rfl⟩ := x0H hU3; have T12 := kH (HT11.out.snoc HO11.out hgr hU3); have R12 := kH (x05 HR11.out (fun k hk => hgr.block k (x02 HR11.out k hk) (fun e => x5V HR11.out HT11.out.1 (by decide) k hk e.symm))); have J12 := kH (HJ11.out.grown hgr (Ne.symm (x10 HT11.out.1 HJ11.out (by decide)))); have H12 := kH (HH11.out.appended hgr (fun k hk => List.mem_append_right _ (List.mem_append_left _ (List.mem_append_left _ (x00.2 hk)))) (fun k hk => by have := (World.ownsRow.lt HT11.out.1 k hk).1; have := H.out.size; omega) hat (fun k hk => (World.ownsRow.lt hU3 k hk).2)); have HG := kH hgr; clear hU3 hgr hat))
    | ((refine x0J rfl 42 (.tmp 57) (.tmp 55) rfl gj 5 176 _ (.slice A2 (done.length + 1) c2) rfl rfl J12.out (by simp [jcells]) (by kernel_rfl) rfl ?_; intro w12 hJ12 ho12 hs12; have q6 : w12.cell? ⟨gj, 6, none⟩ = some (.int .i64 v) := (hJ12.cell 6).trans (by simp [jcells]); have hwr3 : IntKind.i64.wrap ((v : Int) + (m : Int)) = (v : Int) + (m : Int) := (by rw [IntKind.wrap_i64]; omega); have HJ12 := kH hJ12; have HO12 := kH ho12; clear hJ12 ho12))
    | (refine x0J rfl 3 (.tmp 65) (.tmp 63) rfl gj 6 176 _ (.int .i64 ((v : Int) + (m : Int))) rfl rfl HJ12.out (by simp [jcells]) (by kernel_rfl) rfl ?_; intro w13 hJ13 ho13 hs13))
   have hon := HO12.out.trans ho13 (Fresh.refl _ _)
   have HVT := kH (show ∀ k, k < w.heap.size -> vt.ownBlock ≠ some k from fun k hk e => by have := (World.ownsRow.lt HT11.out.1 k e).1; omega)
   go_roundg rest'.length
   case measure => simp
   case rel =>
    have hs5 := B6.out.size
    have hs11 := HG.out.size
    rw [HSZ.out] at hs11
    have hkb : ∀ k, k < w11.heap.size -> k ≠ gj -> w13.heap[k]? = w11.heap[k]? := fun k hk hne => hon.block k hk (by simpa using hne)
    refine ⟨done ++ [t], rest', v + m, .slice A2 (done.length + 1) c2, us ++ [.slice B5 t.length c5], rfl, by rw [<- HDONE.out]; simp, HLS.out, by omega, by simp; omega, ?_, ?_, ?_, ?_, ?_, ?_⟩
    ·refine (H12.out.kept (j := gj) (by simp [hgj]) hon hgj0).mono (fun k hk => ?_)
     simp only [txBlks, List.mem_append, List.flatMap_append, List.flatMap_cons, List.flatMap_nil, List.append_nil] at hk ⊢
     rcases hk with (hk | hk | hk) | hk
     ·exact .inl hk
     ·exact .inr (.inr (.inl (.inr hk)))
     ·exact .inr (.inl (x4S _ _ _ hk))
     ·exact .inr (.inr (.inr hk))
    ·have e : ((v + m : Nat) : Int) = (v : Int) + (m : Int) := by omega
     unfold jcells
     rw [e]
     simpa [jcells] using hJ13
    ·refine T12.out.of (fun k hk => hkb k (T12.out.over k hk).2 ?_)
     have := (T12.out.over k hk).1
     omega
    ·intro k hk hne
     rw [hkb k (by omega) hne, HG.out.block k (by rw [HSZ.out]; omega) (fun e => HVT.out k hk e.symm), HB11.out k (by omega), B6.out.block k (by omega)]
     exact HKEEP.out k hk hne
    ·have := hon.size; omega
    ·refine x05 R12.out (fun k hk => hkb k (x02 R12.out k hk) ?_)
     have := x0I R12.out k hk
     omega
end
section
open Go.RowKit
theorem Holds.between {w0 w w' : World} {g g' : Nat} {d d' : DM} {X X' : List Nat} (h : Holds w0 w g d X) (h' : Holds w0 w' g' d' X') (hs : w.heap.size <= w'.heap.size) (hb : ∀ k, k < w.heap.size -> w'.heap[k]? = w.heap[k]?) : Below w.heap.size w w' :=
  ⟨h'.since.os.trans h.since.os.symm, h'.since.tape.trans h.since.tape.symm, h'.since.output.trans h.since.output.symm, hs, hb⟩
structure Shows (d : DM) (n gen : Nat) (st : List Nat) (txs : List (List Nat)) (u : Nat) : Prop where
 fit : pn st <= areaOf n
 top : newestL (readL d 0 2) 2 = some ((gen : Int), (st.length : Int))
 parts : ∀ k s, k < pn st -> (readL d (stateAt n gen) (areaOf n))[k]? = some s -> isOf s.l 2 gen k = true /\ tD s.l = prow st k
 log : LogIs gen (readL d (logAt n) (logOf n)) 0 txs u
set_option maxHeartbeats 4000000 in
theorem xDP {w0 w : World} {g n : Nat} {d : DM} {X : List Nat} (h : Holds w0 w g d X) (hdn : d.n = n) (hn : n <= 4096) (hn8 : 8 <= n) (hup : d.gone = false) (hwt : d.wait.length <= 1000000)
  (hT : Tab w) (hw0 : 0 < w0.heap.size) (gen : Nat) (st : List Nat) (hst : st.length <= 100000) (txs : List (List Nat)) (u : Nat) (hs : Shows d n gen st txs u) :
  Calls Tryz.prog 70 #[.pointer (some ⟨g, 0, none⟩)] w fun e w' => ∃ gj B cc vt us, e = .returned (.tuple #[.pointer (some ⟨gj, 0, none⟩), .nilIface]) /\ Holds w0 w' g d (txBlks vt us ++ (blkOf B ++ gj :: X)) ∧
   Blk w' gj 176 (jcells n g gen (.slice B st.length cc) vt u false) /\ Own w' w.heap.size (.slice B st.length cc) st.length st /\ TxRows w' w.heap.size vt txs us /\ Below w.heap.size w w' /\ w.heap.size <= gj := by
 have hpos : 0 < w.heap.size := Nat.lt_of_lt_of_le hw0 h.size
 have H := kH h
 have HT := kH hT
 have HS := kH hs
 have hz := x7B
 have hz2 := x8D
 clear h hT hs
 go_enter Tryz.func70, Tryz.ntmps70
 go_wp2_with fail
 refine (x5L H.out).mono ?_
 rintro e w' ⟨rfl, rfl⟩
 rw [hdn]
 have hd8 : decide ((n : Int) < 8) = false := by simp; omega
 have hd8' : decide (n < 8) = false := by simp; omega
 go_wp2_with fail
 refine (x5L H.out).mono ?_
 rintro e w' ⟨rfl, rfl⟩
 rw [hdn]
 go_wp2_with fail
 refine (x6I n w (by omega) hn).mono ?_
 rintro e w1 ⟨rfl, b1⟩
 go_wp2_with fail
 have hjb := Blk.new w1 176 (jcells n g 0 (.slice none 0 0) (.slice none 0 0) 0 false)
 have hB2 := b1.alloc b1.size (.cells (jcells n g 0 (.slice none 0 0) (.slice none 0 0) 0 false) 176)
 have hH2 := H.out.more (Y := [w1.heap.size]) hB2 (fun k hk => by simp at hk; subst hk; exact ⟨b1.size, by simp⟩)
 have hgs := b1.size
 have JB := kH hjb
 have B2 := kH hB2
 have H2 := kH hH2
 have hsz2 : (w1.alloc (.cells (jcells n g 0 (.slice none 0 0) (.slice none 0 0) 0 false) 176)).heap.size = w1.heap.size + 1 := by simp
 unfold jcells at *
 generalize hw2 : w1.alloc (.cells #[.int .i64 (areaOf n), .int .i64 (logOf n), .pointer (some ⟨g, 0, none⟩), .int .i64 (0 : Nat), .slice none 0 0, .slice none 0 0, .int .i64 (0 : Nat), .bool false] 176) = w2 at *
 generalize hgj : w1.heap.size = gj at *
 clear hw2 hjb hB2 hH2 b1 hz hgj
 refine (xAF H2.out JB.out (by simp) (Nat.le_trans H.out.size hgs) hdn hn hn8 hup hwt (x0O HT.out B2.out hpos) hw0 gen st hst HS.out.fit HS.out.top HS.out.parts).mono ?_
 rintro e w3 ⟨B, cc, rfl, h3, k3, j3, o3, e3, s3⟩
 have H3 := kH h3
 have J3 := kH j3
 have O3 := kH o3
 have K3 := kH k3
 have hblk3 : ∀ k, k < w.heap.size -> w3.heap[k]? = w.heap[k]? := fun k hk => (e3 k (by have := B2.out.size; omega) (by omega)).trans (B2.out.block k hk)
 have E3 := kH hblk3
 clear h3 k3 j3 o3 e3 hblk3
 go_wp2_with fail
 refine (xDV H3.out J3.out (by simp) (Nat.le_trans H.out.size hgs) hdn hn hn8 hup hwt (fun i hi => (World.cell?_of_block (E3.out 0 hpos)).trans (HT.out i hi)) hw0 txs u HS.out.log).mono ?_
 rintro e w4 ⟨vt, us, rfl, h4, k4, j4, t4, e4, s4⟩
 have H4 := kH h4
 have J4 := kH j4
 have T4 := kH t4
 have hszb := B2.out.size
 have O4 := kH (x05 O3.out (w' := w4) (fun k hk => e4 k (x02 O3.out k hk) (by have := x0I O3.out k hk; omega)))
 have hbl : Below w.heap.size w w4 := H.out.between H4.out (by omega) (fun k hk => (e4 k (by omega) (by omega)).trans (E3.out k hk))
 go_wp2
 go_ret2
 exact ⟨gj, B, cc, vt, us, rfl, H4.out, J4.out, x0A O4.out (by omega), T4.out.weaken (by omega), hbl, hgs⟩
end
section
open Go.RowKit
def DM.idle (n : Nat) (f : Int -> Sec) (s l : Nat) : DM := ⟨n, f, [], s, false, l, false⟩
noncomputable def putF : (Int -> Sec) -> Nat -> List Sec -> (Int -> Sec)
 | f, _, [] => f
 | f, i, s :: ss => putF (upd f ((i : Int), s)) (i + 1) ss
theorem x0M : ∀ (ss : List Sec) (f : Int -> Sec) (i : Nat) (j : Int), (j < i ∨ (i : Int) + ss.length <= j) -> putF f i ss j = f j
 | [], f, i, j, h => rfl
 | s :: ss, f, i, j, h => by
  rw [putF, x0M ss _ (i + 1) j (by simp only [List.length_cons] at h; omega)]
  unfold upd
  rw [if_neg]
  simp only [List.length_cons] at h
  show j ≠ (i : Int)
  omega
theorem x39 : ∀ (ss : List Sec) (f : Int -> Sec) (i k : Nat) (s : Sec), ss[k]? = some s -> putF f i ss ((i + k : Nat) : Int) = s
 | [], f, i, k, s, h => by simp at h
 | t :: ss, f, i, 0, s, h => by
  rw [putF, x0M ss _ (i + 1) _ (by omega)]
  simp at h
  subst h
  unfold upd
  exact if_pos rfl
 | t :: ss, f, i, k + 1, s, h => by
  rw [putF, show i + (k + 1) = i + 1 + k by omega]
  exact x39 ss _ (i + 1) k s (by simpa using h)
def waitsOf : Nat -> List Sec -> List (Int × Sec)
 | _, [] => []
 | i, s :: ss => ((i : Int), s) :: waitsOf (i + 1) ss
theorem x21 : ∀ (ss : List Sec) (i m : Nat) (f : Int -> Sec), settled (fun _ => true) m (waitsOf i ss) f = putF f i ss
 | [], i, m, f => rfl
 | s :: ss, i, m, f => by
  rw [waitsOf, putF]
  show settled _ (m + 1) (waitsOf (i + 1) ss) _ = _
  rw [x21 ss (i + 1) (m + 1)]
  rfl
theorem xAO : ∀ (ss : List Sec) (n i s l : Nat) (f : Int -> Sec) (wt : List (Int × Sec)), i + ss.length <= n →
  (⟨n, f, wt, s, false, l, false⟩ : DM).putRow i ss = (⟨n, settled (fun _ => true) 0 (wt ++ waitsOf i ss) f, [], s + ss.length + 1, false, l, false⟩, 0)
 | [], n, i, s, l, f, wt, h => by
  simp only [DM.putRow, DM.flush, DM.stepErr, DM.off, DM.step, DM.settle, waitsOf, List.append_nil, List.length_nil, Nat.add_zero, Bool.false_or, Bool.false_and, Bool.false_eq_true, if_false]
 | x :: ss, n, i, s, l, f, wt, h => by
  simp only [List.length_cons] at h
  have h1 : (⟨n, f, wt, s, false, l, false⟩ : DM).has (i : Int) = true := by simp [DM.has]; omega
  have h2 : (⟨n, f, wt, s, false, l, false⟩ : DM).writeErr (i : Int) = 0 := by
   unfold DM.writeErr
   rw [h1]
   simp [DM.off]
  have h3 : (⟨n, f, wt, s, false, l, false⟩ : DM).write (i : Int) x = ⟨n, f, wt ++ [((i : Int), x)], s + 1, false, l, false⟩ := by
   unfold DM.write
   rw [h1]
   simp [DM.off, DM.step]
  rw [DM.putRow, h2, if_pos rfl, h3, xAO ss n (i + 1) (s + 1) l f _ (by omega)]
  simp only [waitsOf, List.append_assoc, List.singleton_append, List.length_cons]
  rw [show s + 1 + ss.length + 1 = s + (ss.length + 1) + 1 by omega]
theorem x3X (n s l i : Nat) (f : Int -> Sec) (ss : List Sec) (h : i + ss.length <= n) : (DM.idle n f s l).putRow i ss = (DM.idle n (putF f i ss) (s + ss.length + 1) l, 0) := by
 unfold DM.idle
 rw [xAO ss n i s l f [] h, List.nil_append, x21]
noncomputable def ckptF (n : Nat) (f : Int -> Sec) (g : Nat) (st : List Nat) : Int -> Sec := putF (putF f (stateAt n g) (bodyS 2 g 0 st)) (g % 2) (topS g st)
noncomputable def appF (n : Nat) (f : Int -> Sec) (g u : Nat) (tx : List Nat) : Int -> Sec := putF (putF f (logAt n + u) (bodyS 3 g u tx)) (logAt n + (u + pn tx)) (endS g (u + pn tx) (pn tx))
noncomputable def fmtF (n : Nat) (f : Int -> Sec) (st : List Nat) : Int -> Sec := ckptF n (putF f 0 [Sec.zero, Sec.zero]) 1 st
theorem xAB {n g : Nat} (h8 : 8 <= n) : stateAt n g + areaOf n <= n := by
 unfold stateAt areaOf
 have : g % 2 = 0 ∨ g % 2 = 1 := by omega
 rcases this with h | h <;> rw [h] <;> omega
theorem x2S (n g : Nat) : 2 <= stateAt n g /\ stateAt n g + areaOf n <= logAt n := by
 unfold stateAt logAt
 have : g % 2 = 0 ∨ g % 2 = 1 := by omega
 rcases this with h | h <;> rw [h] <;> omega
theorem x9Z {n : Nat} (h8 : 8 <= n) : logAt n + logOf n = n := by unfold logAt logOf areaOf; omega
theorem xAP (n s l g : Nat) (f : Int -> Sec) (st : List Nat) (h8 : 8 <= n) (hf : pn st <= areaOf n) : (DM.idle n f s l).ckpt n g st = (DM.idle n (ckptF n f g st) (s + pn st + 3) l, 0) := by
 have h1 := xAB (g := g) h8
 have e := x3X n s l (stateAt n g) f (bodyS 2 g 0 st) (by rw [x0E]; omega)
 rw [x0E] at e
 unfold DM.ckpt
 rw [e, if_pos rfl]
 show (DM.idle n _ _ l).putRow (g % 2) (topS g st) = _
 rw [x3X n _ l (g % 2) _ (topS g st) (by simp [topS]; omega)]
 rfl
theorem xLS (n s l g u : Nat) (f : Int -> Sec) (tx : List Nat) (h8 : 8 <= n) (hf : u + pn tx + 1 <= logOf n) : (DM.idle n f s l).app n g u tx = (DM.idle n (appF n f g u tx) (s + pn tx + 3) l, 0) := by
 have h1 := x9Z h8
 have e := x3X n s l (logAt n + u) f (bodyS 3 g u tx) (by rw [x0E]; omega)
 rw [x0E] at e
 unfold DM.app
 rw [e, if_pos rfl]
 show (DM.idle n _ _ l).putRow _ _ = _
 rw [x3X n _ l _ _ (endS g (u + pn tx) (pn tx)) (by simp [endS]; omega)]
 rfl
theorem xN1 (n s l : Nat) (f : Int -> Sec) (st : List Nat) (h8 : 8 <= n) (hf : pn st <= areaOf n) : (DM.idle n f s l).putRow 0 [Sec.zero, Sec.zero] = (DM.idle n (putF f 0 [Sec.zero, Sec.zero]) (s + 3) l, 0) /\ ((DM.idle n f s l).putRow 0 [Sec.zero, Sec.zero]).1.ckpt n 1 st = (DM.idle n (fmtF n f st) (s + pn st + 6) l, 0) := by
 have e := x3X n s l 0 f [Sec.zero, Sec.zero] (by simp; omega)
 refine ⟨e, ?_⟩
 rw [e]
 show (DM.idle n _ _ l).ckpt n 1 st = _
 rw [xAP n _ l 1 _ st h8 hf]
 simp only [List.length_cons, List.length_nil]
 rw [show s + (0 + 1 + 1) + 1 + pn st + 3 = s + pn st + 6 by omega]
 rfl
theorem xGE (n s l : Nat) (f : Int -> Sec) (keep : List Bool) : (DM.idle n f s l).crash keep = DM.idle n f s 0 := rfl
theorem xHW (n s l : Nat) (f : Int -> Sec) (i : Nat) (h : i < n) : (DM.idle n f s l).read (i : Int) = f i := by
 have h1 : (DM.idle n f s l).has (i : Int) = true := by simp [DM.idle, DM.has]; omega
 unfold DM.read
 rw [h1]
 simp [DM.idle, lastOf]
theorem xKN (n : Nat) : DM.new n = DM.idle n (fun _ => Sec.zero) 0 0 := rfl
theorem x5B {n s l a m k : Nat} {f : Int -> Sec} (ha : a + m <= n) (hk : k < m) : (readL (DM.idle n f s l) a m)[k]? = some (f ((a + k : Nat) : Int)) := by
 unfold readL
 rw [List.getElem?_map, List.getElem?_range hk]
 show some (readRow _ a m k) = _
 unfold readRow
 rw [if_pos hk, show (a : Int) + (k : Int) = ((a + k : Nat) : Int) by omega, xHW n s l f (a + k) (by omega)]
theorem x1K {k g n : Int} {d : List Nat} (hb : isBoxB k g n = true) (hl : d.length <= 106) (h : ∀ b ∈ d, b < 256) (k' g' n' : Int) : isOf (sealRes k g n d).l k' g' n' = decide (k = k' /\ g = g' /\ n = n') := by
 obtain ⟨h1, h2, h3, h4, h5⟩ := x4M k g n d hb hl
 unfold isOf
 rw [x79 hb hl h, x66 k g n d hb hl, h1, h2, h3, Bool.true_and]
theorem xA5 {k g n : Int} {d : List Nat} (hb : isBoxB k g n = true) (hl : d.length <= 106) (h : ∀ b ∈ d, b < 256) : tD (sealRes k g n d).l = d := by
 rw [x79 hb hl h]
 exact (x4M k g n d hb hl).2.2.2.2
theorem x9S (z : Int) : isNum (numB z) = true := by simp [isNum, x04]
theorem xDX {g z : Nat} (hg : g <= 4611686018427387904) (hz : z <= 4611686018427387904) : topOf (sealRes 1 g 0 (numB z)) = some ((g : Int), (z : Int)) := by
 have hb : isBoxB 1 (g : Int) 0 = true := by simp [isBoxB]; omega
 have hl : (numB (z : Int)).length <= 106 := by rw [x04]; omega
 obtain ⟨h1, h2, h3, h4, h5⟩ := x4M 1 (g : Int) 0 (numB (z : Int)) hb hl
 unfold topOf
 rw [x79 hb hl (x0Z _), x66 1 _ 0 _ hb hl, h1, h2, h3, h5, x9S, x3P _ (by omega) (by omega), if_pos ⟨rfl, rfl, rfl, rfl, by omega⟩]
theorem xOD : tK (List.replicate 128 0) = 0 := by rfl
theorem x8E : isSealed Sec.zero.l = false := by
 show isSealed (List.replicate 128 0) = false
 unfold isSealed
 rw [xOD]
 simp [isBoxB]
theorem xM7 : topOf Sec.zero = none := by
 unfold topOf
 rw [x8E]
 simp
theorem xFW (k g n : Int) : isOf Sec.zero.l k g n = false := by
 unfold isOf
 rw [x8E]
 rfl
theorem x7T {k g first : Nat} {d : List Nat} {i : Nat} (hi : i < pn d) : (bodyS k g first d)[i]? = some (sealRes k g ((first : Int) + (i : Int)) (prow d i)) := by
 unfold bodyS
 rw [List.getElem?_map, List.getElem?_range hi]
 rfl
noncomputable def LogF (f : Int -> Sec) (n gen : Nat) : Nat -> List (List Nat) -> Nat -> Prop
 | v, [], u => v = u
 | v, t :: l, u => t ≠ [] /\ (∀ b ∈ t, b < 256) /\ (∀ k, k < pn t -> f ((logAt n + (v + k) : Nat) : Int) = sealRes 3 gen ((v : Int) + (k : Int)) (prow t k)) /\ f ((logAt n + (v + pn t) : Nat) : Int) = sealRes 4 gen ((v + pn t : Nat) : Int) (numB (pn t)) /\ LogF f n gen (v + pn t + 1) l u
structure JOk (f : Int -> Sec) (n gen : Nat) (st : List Nat) (txs : List (List Nat)) (u : Nat) : Prop where
 n8 : 8 <= n
 nle : n <= 4096
 fit : pn st <= areaOf n
 gle : gen <= 4611686018427387000
 s256 : ∀ b ∈ st, b < 256
 slen : st.length <= 20000
 top : topOf (f ((gen % 2 : Nat) : Int)) = some ((gen : Int), (st.length : Int))
 alt : ∀ g z, topOf (f (((gen + 1) % 2 : Nat) : Int)) = some (g, z) -> g < gen
 parts : ∀ k, k < pn st -> f ((stateAt n gen + k : Nat) : Int) = sealRes 2 gen (k : Int) (prow st k)
 log : LogF f n gen 0 txs u
 ule : u <= logOf n
 old : ∀ p, u <= p -> p < logOf n -> ∀ g : Int, (gen : Int) <= g -> isOf (f ((logAt n + p : Nat) : Int)).l 3 g (p : Int) = false
theorem LogF.le {f : Int -> Sec} {n gen : Nat} : ∀ (l : List (List Nat)) (v u : Nat), LogF f n gen v l u -> v + 2 * l.length <= u
 | [], v, u, h => Nat.le_of_eq h
 | t :: l, v, u, h => by
  have h1 := LogF.le l _ u h.2.2.2.2
  have h2 : 0 < pn t := by have := List.length_pos_iff.2 h.1; unfold pn; omega
  simp only [List.length_cons]
  omega
theorem LogF.frame {f f' : Int -> Sec} {n gen : Nat} : ∀ (l : List (List Nat)) (v u : Nat), LogF f n gen v l u -> (∀ p, v <= p -> p < u -> f' ((logAt n + p : Nat) : Int) = f ((logAt n + p : Nat) : Int)) -> LogF f' n gen v l u
 | [], v, u, h, _ => h
 | t :: l, v, u, h, hk => by
  have h1 := LogF.le l _ u h.2.2.2.2
  refine ⟨h.1, h.2.1, fun k hkt => ?_, ?_, LogF.frame l _ u h.2.2.2.2 (fun p h1 h2 => hk p (by omega) h2)⟩
  ·rw [hk (v + k) (by omega) (by omega)]; exact h.2.2.1 k hkt
  ·rw [hk (v + pn t) (by omega) (by omega)]; exact h.2.2.2.1
theorem LogF.snoc {f : Int -> Sec} {n gen : Nat} {t : List Nat} : ∀ (l : List (List Nat)) (v u u' : Nat), LogF f n gen v l u -> LogF f n gen u [t] u' -> LogF f n gen v (l ++ [t]) u'
 | [], v, u, u', h, h' => by obtain rfl : v = u := h; exact h'
 | x :: l, v, u, u', h, h' => ⟨h.1, h.2.1, h.2.2.1, h.2.2.2.1, LogF.snoc l _ u u' h.2.2.2.2 h'⟩
theorem LogF.none {f : Int -> Sec} {n gen : Nat} (hg : gen <= 4611686018427387000) : ∀ (l : List (List Nat)) (v u : Nat), LogF f n gen v l u -> u <= 100000 -> ∀ p, v <= p -> p < u -> ∀ g : Int, (gen : Int) < g -> isOf (f ((logAt n + p : Nat) : Int)).l 3 g (p : Int) = false
 | [], v, u, h, _, p, h1, h2, g, hgg => by have : v = u := h; omega
 | t :: l, v, u, h, hu, p, h1, h2, g, hgg => by
  have hle := LogF.le l _ u h.2.2.2.2
  by_cases hp : p < v + pn t
  ·obtain ⟨k, rfl⟩ : ∃ k, p = v + k := ⟨p - v, by omega⟩
   rw [h.2.2.1 k (by omega), x1K (by simp [isBoxB]; omega) (x1E _ _) (x3A h.2.1 _)]
   simp
   omega
  ·by_cases hp2 : p = v + pn t
   ·subst hp2
    rw [h.2.2.2.1, x1K (by simp [isBoxB]; omega) (by rw [x04]; omega) (x0Z _)]
    simp
   ·exact LogF.none hg l _ u h.2.2.2.2 hu p (by omega) h2 g hgg
theorem JOk.format {n : Nat} {st : List Nat} (h8 : 8 <= n) (hn : n <= 4096) (hf : pn st <= areaOf n) (h256 : ∀ b ∈ st, b < 256) (hl : st.length <= 20000) : JOk (fmtF n (fun _ => Sec.zero) st) n 1 st [] 0 := by
 have ha := x2S n 1
 have h0 : ∀ j : Int, putF (fun _ => Sec.zero) 0 [Sec.zero, Sec.zero] j = Sec.zero := fun j => by
  simp only [putF, upd]
  split
  ·rfl
  ·split <;> rfl
 refine ⟨h8, hn, hf, by omega, h256, hl, ?_, ?_, ?_, rfl, by omega, ?_⟩
 ·unfold fmtF ckptF
  have := x39 (topS 1 st) (putF (putF (fun _ => Sec.zero) 0 [Sec.zero, Sec.zero]) (stateAt n 1) (bodyS 2 1 0 st)) (1 % 2) 0 _ rfl
  rw [show (1 % 2 + 0 : Nat) = 1 % 2 from rfl] at this
  rw [this]
  exact xDX (g := 1) (by omega) (by omega)
 ·intro g z hgz
  exfalso
  unfold fmtF ckptF at hgz
  rw [x0M _ _ _ _ (by simp [topS]), x0M _ _ _ _ (by left; simp; omega), h0, xM7] at hgz
  cases hgz
 ·intro k hk
  unfold fmtF ckptF
  rw [x0M _ _ _ _ (by right; simp [topS]; omega), x39 (bodyS 2 1 0 st) _ (stateAt n 1) k _ (x7T hk)]
  simp
 ·intro p _ hp g hg
  unfold fmtF ckptF
  rw [x0M _ _ _ _ (by right; simp [topS]; omega), x0M _ _ _ _ (by right; rw [x0E]; omega), h0]
  exact xFW _ _ _
theorem JOk.ckpt {f : Int -> Sec} {n gen u : Nat} {st st' : List Nat} {txs : List (List Nat)} (h : JOk f n gen st txs u) (hf : pn st' <= areaOf n) (h256 : ∀ b ∈ st', b < 256) (hl : st'.length <= 20000) (hg : gen + 1 <= 4611686018427387000) : JOk (ckptF n f (gen + 1) st') n (gen + 1) st' [] 0 := by
 have ha := x2S n (gen + 1)
 have hlo : logOf n <= 4096 := by have := h.nle; unfold logOf; omega
 refine ⟨h.n8, h.nle, hf, hg, h256, hl, ?_, ?_, ?_, rfl, by omega, ?_⟩
 ·unfold ckptF
  have := x39 (topS (gen + 1) st') (putF f (stateAt n (gen + 1)) (bodyS 2 (gen + 1) 0 st')) ((gen + 1) % 2) 0 _ rfl
  rw [show ((gen + 1) % 2 + 0 : Nat) = (gen + 1) % 2 from rfl] at this
  rw [this]
  exact xDX (g := gen + 1) (by omega) (by omega)
 ·intro g z hgz
  unfold ckptF at hgz
  rw [x0M _ _ _ _ (by simp [topS]; omega), x0M _ _ _ _ (by left; omega), show (gen + 1 + 1) % 2 = gen % 2 by omega, h.top] at hgz
  injection hgz with hgz
  injection hgz with hgz
  omega
 ·intro k hk
  unfold ckptF
  rw [x0M _ _ _ _ (by right; simp [topS]; omega), x39 (bodyS 2 (gen + 1) 0 st') _ (stateAt n (gen + 1)) k _ (x7T hk)]
  simp
 ·intro p _ hp g hgg
  unfold ckptF
  rw [x0M _ _ _ _ (by right; simp [topS]; omega), x0M _ _ _ _ (by right; rw [x0E]; omega)]
  by_cases hpu : p < u
  ·exact LogF.none h.gle txs 0 u h.log (by have := h.ule; omega) p (by omega) hpu g (by omega)
  ·exact h.old p (by omega) hp g (by omega)
theorem JOk.app {f : Int -> Sec} {n gen u : Nat} {st tx : List Nat} {txs : List (List Nat)} (h : JOk f n gen st txs u) (hne : tx ≠ []) (h256 : ∀ b ∈ tx, b < 256) (hf : u + pn tx + 1 <= logOf n) : JOk (appF n f gen u tx) n gen st (txs ++ [tx]) (u + pn tx + 1) := by
 have ha := x2S n gen
 have hlow : ∀ j : Int, j < (logAt n + u : Nat) -> appF n f gen u tx j = f j := fun j hj => by
  unfold appF
  rw [x0M _ _ _ _ (by left; omega), x0M _ _ _ _ (by left; omega)]
 have hhigh : ∀ p, u + pn tx + 1 <= p -> appF n f gen u tx ((logAt n + p : Nat) : Int) = f ((logAt n + p : Nat) : Int) := fun p hp => by
  unfold appF
  rw [x0M _ _ _ _ (by right; simp [endS]; omega), x0M _ _ _ _ (by right; rw [x0E]; omega)]
 refine ⟨h.n8, h.nle, h.fit, h.gle, h.s256, h.slen, ?_, ?_, ?_, ?_, hf, ?_⟩
 ·rw [hlow _ (by unfold logAt; omega)]; exact h.top
 ·rw [hlow _ (by unfold logAt; omega)]; exact h.alt
 ·intro k hk
  have := h.fit
  rw [hlow _ (by omega)]; exact h.parts k hk
 ·refine LogF.snoc txs 0 u _ (LogF.frame txs 0 u h.log (fun p _ hp => hlow _ (by omega))) ⟨hne, h256, fun k hk => ?_, ?_, rfl⟩
  ·unfold appF
   rw [x0M _ _ _ _ (by left; omega), show logAt n + (u + k) = logAt n + u + k by omega, x39 (bodyS 3 gen u tx) _ (logAt n + u) k _ (x7T hk)]
   rfl
  ·unfold appF
   have := x39 (endS gen (u + pn tx) (pn tx)) (putF f (logAt n + u) (bodyS 3 gen u tx)) (logAt n + (u + pn tx)) 0 _ rfl
   rw [Nat.add_zero] at this
   exact this
 ·intro p hp hpl g hg
  rw [hhigh p hp]
  exact h.old p (by omega) hpl g hg
theorem x9R {g : Nat} {v : Nat} {t : List Nat} (hg : g <= 4611686018427387000) (hv : v + pn t <= 100000) (h256 : ∀ b ∈ t, b < 256) (hne : t ≠ []) (ss : List Sec) (hb : ∀ k, k < pn t -> ss[v + k]? = some (sealRes 3 g ((v : Int) + (k : Int)) (prow t k))) (he : ss[v + pn t]? = some (sealRes 4 g ((v + pn t : Nat) : Int) (numB (pn t)))) :
  ∀ m k, k + m = pn t -> standF g v (ss.drop (v + k)) k (t.take (106 * k)) = some (t, pn t + 1)
 | 0, k, hk => by
  obtain rfl : k = pn t := by omega
  have hdrop : ss.drop (v + pn t) = sealRes 4 g ((v + pn t : Nat) : Int) (numB (pn t)) :: ss.drop (v + pn t + 1) := by
   obtain ⟨hl, hx⟩ := List.getElem?_eq_some_iff.1 he
   rw [List.drop_eq_getElem_cons hl, hx]
  have hpos : 0 < pn t := by have := List.length_pos_iff.2 hne; unfold pn; omega
  have hbox : isBoxB 4 (g : Int) ((v + pn t : Nat) : Int) = true := by simp [isBoxB]; omega
  have htk : t.take (106 * pn t) = t := List.take_of_length_le (by unfold pn; omega)
  rw [hdrop, htk]
  unfold standF
  have hsum : ((v : Int) + (pn t : Int)) = ((v + pn t : Nat) : Int) := by omega
  rw [hsum, x1K hbox (by rw [x04]; omega) (x0Z _), if_neg (by simp), if_pos]
  refine ⟨hpos, ?_⟩
  unfold endOf
  rw [x1K hbox (by rw [x04]; omega) (x0Z _), xA5 hbox (by rw [x04]; omega) (x0Z _), x9S, x3P _ (by omega) (by omega)]
  simp
 | m + 1, k, hk => by
  have hx := hb k (by omega)
  have hdrop : ss.drop (v + k) = sealRes 3 g ((v : Int) + (k : Int)) (prow t k) :: ss.drop (v + k + 1) := by
   obtain ⟨hl, hx⟩ := List.getElem?_eq_some_iff.1 hx
   rw [List.drop_eq_getElem_cons hl, hx]
  have hbox : isBoxB 3 (g : Int) ((v : Int) + (k : Int)) = true := by simp [isBoxB]; omega
  rw [hdrop]
  unfold standF
  rw [x1K hbox (x1E _ _) (x3A h256 _), if_pos (by simp), xA5 hbox (x1E _ _) (x3A h256 _), <- xBH]
  exact x9R hg hv h256 hne ss hb he m (k + 1) (by omega)
theorem xG9 {a b : Sec} {gen : Nat} {z : Int} (h : (gen % 2 = 0 /\ topOf a = some ((gen : Int), z) /\ ∀ g z', topOf b = some (g, z') -> g < gen) ∨ (gen % 2 = 1 /\ topOf b = some ((gen : Int), z) /\ ∀ g z', topOf a = some (g, z') -> g < gen)) : newestL [a, b] 2 = some ((gen : Int), z) := by
  show pickTop (pickTop none 0 a) 1 b = _
  rcases h with ⟨hm, h1, h2⟩ | ⟨hm, h1, h2⟩
  · have e1 : pickTop none 0 a = some ((gen : Int), z) := by
      unfold pickTop
      rw [h1]
      exact if_pos ⟨by omega, fun x hx => by cases hx⟩
    rw [e1]
    unfold pickTop
    cases hb : topOf b with
    | none => rfl
    | some x =>
      obtain ⟨g, z'⟩ := x
      have := h2 g z' hb
      simp only
      rw [if_neg]
      rintro ⟨_, h3⟩
      have := h3 _ rfl
      omega
  · have e1 : ∀ x, pickTop none 0 a = some x -> x.1 < gen := by
      intro x hx
      unfold pickTop at hx
      cases ha : topOf a with
      | none => rw [ha] at hx; cases hx
      | some y =>
        obtain ⟨g, z'⟩ := y
        rw [ha] at hx
        simp only at hx
        split at hx
        · injection hx with hx
          subst hx
          exact h2 g z' ha
        · cases hx
    generalize pickTop none 0 a = acc at *
    unfold pickTop
    rw [h1]
    exact if_pos ⟨by omega, e1⟩
end
section
open Go.RowKit
def DM.arms (n : Nat) (f : Int -> Sec) (s l : Nat) : DM := ⟨n, f, [], s, true, l, false⟩
def DM.fell (n : Nat) (f : Int -> Sec) (wt : List (Int × Sec)) (s : Nat) : DM := ⟨n, f, wt, s, true, 0, true⟩
theorem x55 : ∀ (ss : List Sec) (n i s l : Nat) (f : Int -> Sec) (wt : List (Int × Sec)), i + ss.length <= n →
    (ss.length + 1 <= l -> (⟨n, f, wt, s, true, l, false⟩ : DM).putRow i ss = (⟨n, settled (fun _ => true) 0 (wt ++ waitsOf i ss) f, [], s + ss.length + 1, true, l - (ss.length + 1), false⟩, 0)) ∧
    (l <= ss.length -> (⟨n, f, wt, s, true, l, false⟩ : DM).putRow i ss = (⟨n, f, wt ++ waitsOf i (ss.take l), s + l, true, 0, true⟩, 3))
  | [], n, i, s, l, f, wt, h => by
    constructor
    · intro hl
      have h0 : ¬ l = 0 := by simp at hl; omega
      simp [DM.putRow, DM.flush, DM.stepErr, DM.off, DM.step, DM.settle, waitsOf, h0]
    · intro hl
      obtain rfl : l = 0 := by simp at hl; exact hl
      simp [DM.putRow, DM.flush, DM.stepErr, DM.off, DM.step, waitsOf]
  | x :: ss, n, i, s, l, f, wt, h => by
    simp only [List.length_cons] at h
    have h1 : (⟨n, f, wt, s, true, l, false⟩ : DM).has (i : Int) = true := by simp [DM.has]; omega
    by_cases hl0 : l = 0
    · subst hl0
      refine ⟨fun hl => absurd hl (by simp), fun _ => ?_⟩
      have h2 : (⟨n, f, wt, s, true, 0, false⟩ : DM).writeErr (i : Int) = 3 := by
        unfold DM.writeErr
        rw [h1]
        simp [DM.off]
      have h3 : (⟨n, f, wt, s, true, 0, false⟩ : DM).write (i : Int) x = ⟨n, f, wt, s, true, 0, true⟩ := by
        unfold DM.write
        rw [h1]
        simp [DM.off, DM.step]
      rw [DM.putRow, h2, if_neg (by omega), h3]
      simp [waitsOf]
    · have h2 : (⟨n, f, wt, s, true, l, false⟩ : DM).writeErr (i : Int) = 0 := by
        unfold DM.writeErr
        rw [h1]
        simp [DM.off, hl0]
      have h3 : (⟨n, f, wt, s, true, l, false⟩ : DM).write (i : Int) x = ⟨n, f, wt ++ [((i : Int), x)], s + 1, true, l - 1, false⟩ := by
        unfold DM.write
        rw [h1]
        simp [DM.off, DM.step, hl0]
      obtain ⟨a, b⟩ := x55 ss n (i + 1) (s + 1) (l - 1) f (wt ++ [((i : Int), x)]) (by omega)
      rw [DM.putRow, h2, if_pos rfl, h3]
      constructor
      · intro hl
        simp only [List.length_cons] at hl
        rw [a (by omega)]
        simp only [waitsOf, List.append_assoc, List.singleton_append, List.length_cons]
        rw [show s + 1 + ss.length + 1 = s + (ss.length + 1) + 1 by omega, show l - 1 - (ss.length + 1) = l - (ss.length + 1 + 1) by omega]
      · intro hl
        simp only [List.length_cons] at hl
        obtain ⟨m, rfl⟩ : ∃ m, l = m + 1 := ⟨l - 1, by omega⟩
        rw [Nat.add_sub_cancel] at b ⊢
        rw [b (by omega)]
        simp only [waitsOf, List.append_assoc, List.singleton_append, List.take_succ_cons]
        rw [show s + 1 + m = s + (m + 1) by omega]
theorem x38 (n s l i : Nat) (f : Int -> Sec) (ss : List Sec) (h : i + ss.length <= n) (hl : ss.length + 1 <= l) : (DM.arms n f s l).putRow i ss = (DM.arms n (putF f i ss) (s + ss.length + 1) (l - (ss.length + 1)), 0) := by
 unfold DM.arms
 rw [(x55 ss n i s l f [] h).1 hl, List.nil_append, x21]
theorem x4G (n s l i : Nat) (f : Int -> Sec) (ss : List Sec) (h : i + ss.length <= n) (hl : l <= ss.length) : (DM.arms n f s l).putRow i ss = (DM.fell n f (waitsOf i (ss.take l)) (s + l), 3) := by
 unfold DM.arms
 rw [(x55 ss n i s l f [] h).2 hl, List.nil_append]
 rfl
theorem x1M (n s : Nat) (f : Int -> Sec) (wt : List (Int × Sec)) (keep : List Bool) : (DM.fell n f wt s).crash keep = DM.idle n (settled (keptOf keep) 0 wt f) s 0 := rfl
theorem x43 (kept : Nat -> Bool) : ∀ (ss : List Sec) (i m : Nat) (f : Int -> Sec) (j : Int), settled kept m (waitsOf i ss) f j = f j ∨ ∃ k s, ss[k]? = some s /\ j = ((i + k : Nat) : Int) /\ settled kept m (waitsOf i ss) f j = s
 | [], i, m, f, j => .inl rfl
 | x :: ss, i, m, f, j => by
  show settled kept (m + 1) (waitsOf (i + 1) ss) (if kept m then upd f ((i : Int), x) else f) j = _ ∨ _
  rcases x43 kept ss (i + 1) (m + 1) (if kept m then upd f ((i : Int), x) else f) j with h | ⟨k, s, h1, h2, h3⟩
  ·rw [h]
   by_cases hk : kept m = true
   ·rw [if_pos hk]
    by_cases hj : j = (i : Int)
    ·right
     refine ⟨0, x, rfl, by rw [hj]; rfl, ?_⟩
     show settled kept (m + 1) (waitsOf (i + 1) ss) (if kept m then upd f ((i : Int), x) else f) j = _
     rw [h, if_pos hk]
     unfold upd
     exact if_pos hj
    ·left
     unfold upd
     exact if_neg hj
   ·left
    rw [if_neg hk]
  ·exact .inr ⟨k + 1, s, by simpa using h1, by rw [h2]; omega, h3⟩
structure JShow (f : Int -> Sec) (n gen : Nat) (st : List Nat) (txs : List (List Nat)) (u : Nat) : Prop where
 n8 : 8 <= n
 nle : n <= 4096
 fit : pn st <= areaOf n
 gle : gen <= 4611686018427387000
 s256 : ∀ b ∈ st, b < 256
 slen : st.length <= 20000
 top : topOf (f ((gen % 2 : Nat) : Int)) = some ((gen : Int), (st.length : Int))
 alt : ∀ g z, topOf (f (((gen + 1) % 2 : Nat) : Int)) = some (g, z) -> g < gen
 parts : ∀ k, k < pn st -> f ((stateAt n gen + k : Nat) : Int) = sealRes 2 gen (k : Int) (prow st k)
 log : LogF f n gen 0 txs u
 ule : u <= logOf n
 ends : ∀ p, u <= p -> p < logOf n -> isOf (f ((logAt n + p : Nat) : Int)).l 4 gen (p : Int) = false
theorem x9L {g : Int} {p : Nat} : ∀ (l : List Sec) (k : Nat) (tx : List Nat), (∀ i s, l[i]? = some s -> isOf s.l 4 g ((p : Int) + ((k + i : Nat) : Int)) = false) -> standF g p l k tx = none
 | [], k, tx, h => rfl
 | s :: l, k, tx, h => by
  have h0 := h 0 s rfl
  have hn := x9L l (k + 1) (tx ++ tD s.l) (fun i s' hi => by
   have := h (i + 1) s' (by simpa using hi)
   rwa [show k + (i + 1) = k + 1 + i by omega] at this)
  unfold standF
  split
  ·exact hn
  ·rw [if_neg]
   rintro ⟨_, he⟩
   unfold endOf at he
   rw [show (p : Int) + ((k + 0 : Nat) : Int) = (p : Int) + (k : Int) by omega] at h0
   rw [h0] at he
   cases he
theorem xFV {f : Int -> Sec} {n gen s l : Nat} (h8 : 8 <= n) (hn : n <= 4096) (hg : gen <= 4611686018427387000) {u : Nat} (hu : u <= logOf n) (hend : ∀ p, u <= p -> p < logOf n -> isOf (f ((logAt n + p : Nat) : Int)).l 4 gen (p : Int) = false) : ∀ (txs : List (List Nat)) (v : Nat), LogF f n gen v txs u -> LogIs gen (readL (DM.idle n f s l) (logAt n) (logOf n)) v txs u
 | [], v, h => by
  obtain rfl : v = u := h
  refine ⟨rfl, x9L _ _ _ (fun i x hx => ?_)⟩
  rw [List.getElem?_drop] at hx
  have hi : v + i < logOf n := by
   rcases Nat.lt_or_ge (v + i) (logOf n) with h' | h'
   ·exact h'
   ·rw [List.getElem?_eq_none (by rw [x2X]; omega)] at hx; cases hx
  rw [x5B (by rw [x9Z h8]; omega) hi] at hx
  injection hx with hx
  subst hx
  have := hend (v + i) (by omega) hi
  rw [show (v : Int) + ((0 + i : Nat) : Int) = ((v + i : Nat) : Int) by omega]
  exact this
 | t :: rest, v, h => by
  have hle := LogF.le rest _ u h.2.2.2.2
  have hlo : logOf n <= 4096 := by unfold logOf; omega
  have hr : ∀ p, p < u -> (readL (DM.idle n f s l) (logAt n) (logOf n))[p]? = some (f ((logAt n + p : Nat) : Int)) := fun p hp => x5B (by rw [x9Z h8]; omega) (by omega)
  refine ⟨pn t + 1, ?_, ?_⟩
  ·have := x9R (g := gen) (v := v) (t := t) hg (by omega) h.2.1 h.1 (readL (DM.idle n f s l) (logAt n) (logOf n)) (fun k hk => by rw [hr (v + k) (by omega), h.2.2.1 k hk]) (by rw [hr (v + pn t) (by omega), h.2.2.2.1]) (pn t) 0 (by omega)
   simpa using this
  ·rw [show v + (pn t + 1) = v + pn t + 1 by omega]
   exact xFV h8 hn hg hu hend rest _ h.2.2.2.2
theorem JShow.shows {f : Int -> Sec} {n gen u s l : Nat} {st : List Nat} {txs : List (List Nat)} (h : JShow f n gen st txs u) : Shows (DM.idle n f s l) n gen st txs u := by
  have hn8 := h.n8
  have hfit := h.fit
  refine ⟨h.fit, ?_, ?_, xFV h.n8 h.nle h.gle h.ule h.ends txs 0 h.log⟩
  · have e : readL (DM.idle n f s l) 0 2 = [f 0, f 1] := by
      apply List.ext_getElem?
      intro i
      rcases Nat.lt_or_ge i 2 with hi | hi
      · rw [x5B (by omega) hi]
        have : i = 0 ∨ i = 1 := by omega
        rcases this with rfl | rfl <;> rfl
      · rw [List.getElem?_eq_none (by rw [x2X]; omega), List.getElem?_eq_none (by simp; omega)]
    rw [e]
    apply xG9
    have h1 := h.top
    have h2 := h.alt
    have : gen % 2 = 0 ∨ gen % 2 = 1 := by omega
    rcases this with hm | hm
    · rw [hm] at h1
      rw [show (gen + 1) % 2 = 1 by omega] at h2
      exact .inl ⟨hm, h1, h2⟩
    · rw [hm] at h1
      rw [show (gen + 1) % 2 = 0 by omega] at h2
      exact .inr ⟨hm, h1, h2⟩
  · intro k x hk hx
    rw [x5B (by have := xAB (g := gen) hn8; omega) (by omega)] at hx
    injection hx with hx
    subst hx
    rw [h.parts k hk]
    have hle := x2F h.nle
    have hg := h.gle
    have hb : isBoxB 2 (gen : Int) (k : Int) = true := by simp [isBoxB]; omega
    rw [x1K hb (x1E _ _) (x3A h.s256 _), xA5 hb (x1E _ _) (x3A h.s256 _)]
    simp
structure JFine (f : Int -> Sec) (n gen : Nat) (st : List Nat) (txs : List (List Nat)) (u : Nat) : Prop where
 ok : JOk f n gen st txs u
 old : ∀ p, u <= p -> p < logOf n -> ∀ kd g : Int, (gen : Int) <= g -> isOf (f ((logAt n + p : Nat) : Int)).l kd g (p : Int) = false
theorem JFine.show {f : Int -> Sec} {n gen u : Nat} {st : List Nat} {txs : List (List Nat)} (h : JFine f n gen st txs u) : JShow f n gen st txs u :=
  ⟨h.ok.n8, h.ok.nle, h.ok.fit, h.ok.gle, h.ok.s256, h.ok.slen, h.ok.top, h.ok.alt, h.ok.parts, h.ok.log, h.ok.ule, fun p h1 h2 => h.old p h1 h2 4 gen (by omega)⟩
theorem JFine.format {n : Nat} {st : List Nat} (h8 : 8 <= n) (hn : n <= 4096) (hf : pn st <= areaOf n) (h256 : ∀ b ∈ st, b < 256) (hl : st.length <= 20000) : JFine (fmtF n (fun _ => Sec.zero) st) n 1 st [] 0 := by
 have ha := x2S n 1
 have h0 : ∀ j : Int, putF (fun _ => Sec.zero) 0 [Sec.zero, Sec.zero] j = Sec.zero := fun j => by
  simp only [putF, upd]
  split
  ·rfl
  ·split <;> rfl
 refine ⟨JOk.format h8 hn hf h256 hl, fun p _ hp kd g hg => ?_⟩
 unfold fmtF ckptF
 rw [x0M _ _ _ _ (by right; simp [topS]; omega), x0M _ _ _ _ (by right; rw [x0E]; omega), h0]
 exact xFW _ _ _
theorem LogF.none' {f : Int -> Sec} {n gen : Nat} (hg : gen <= 4611686018427387000) : ∀ (l : List (List Nat)) (v u : Nat), LogF f n gen v l u -> u <= 100000 -> ∀ p, v <= p -> p < u -> ∀ kd g : Int, (gen : Int) < g -> isOf (f ((logAt n + p : Nat) : Int)).l kd g (p : Int) = false
 | [], v, u, h, _, p, h1, h2, kd, g, hgg => by have : v = u := h; omega
 | t :: l, v, u, h, hu, p, h1, h2, kd, g, hgg => by
  have hle := LogF.le l _ u h.2.2.2.2
  by_cases hp : p < v + pn t
  ·obtain ⟨k, rfl⟩ : ∃ k, p = v + k := ⟨p - v, by omega⟩
   rw [h.2.2.1 k (by omega), x1K (by simp [isBoxB]; omega) (x1E _ _) (x3A h.2.1 _)]
   simp
   omega
  ·by_cases hp2 : p = v + pn t
   ·subst hp2
    rw [h.2.2.2.1, x1K (by simp [isBoxB]; omega) (by rw [x04]; omega) (x0Z _)]
    simp
    omega
   ·exact LogF.none' hg l _ u h.2.2.2.2 hu p (by omega) h2 kd g hgg
theorem JFine.ckpt {f : Int -> Sec} {n gen u : Nat} {st st' : List Nat} {txs : List (List Nat)} (h : JFine f n gen st txs u) (hf : pn st' <= areaOf n) (h256 : ∀ b ∈ st', b < 256) (hl : st'.length <= 20000) (hg : gen + 1 <= 4611686018427387000) : JFine (ckptF n f (gen + 1) st') n (gen + 1) st' [] 0 := by
 have ha := x2S n (gen + 1)
 have hlo : logOf n <= 4096 := by have := h.ok.nle; unfold logOf; omega
 refine ⟨h.ok.ckpt hf h256 hl hg, fun p _ hp kd g hgg => ?_⟩
 unfold ckptF
 rw [x0M _ _ _ _ (by right; simp [topS]; omega), x0M _ _ _ _ (by right; rw [x0E]; omega)]
 by_cases hpu : p < u
 ·exact LogF.none' h.ok.gle txs 0 u h.ok.log (by have := h.ok.ule; omega) p (by omega) hpu kd g (by omega)
 ·exact h.old p (by omega) hp kd g (by omega)
theorem JFine.app {f : Int -> Sec} {n gen u : Nat} {st tx : List Nat} {txs : List (List Nat)} (h : JFine f n gen st txs u) (hne : tx ≠ []) (h256 : ∀ b ∈ tx, b < 256) (hf : u + pn tx + 1 <= logOf n) : JFine (appF n f gen u tx) n gen st (txs ++ [tx]) (u + pn tx + 1) := by
 refine ⟨h.ok.app hne h256 hf, fun p hp hpl kd g hg => ?_⟩
 have hhigh : appF n f gen u tx ((logAt n + p : Nat) : Int) = f ((logAt n + p : Nat) : Int) := by
  unfold appF
  rw [x0M _ _ _ _ (by right; simp [endS]; omega), x0M _ _ _ _ (by right; rw [x0E]; omega)]
 rw [hhigh]
 exact h.old p (by omega) hpl kd g hg
theorem JFine.cut_app {f F : Int -> Sec} {n gen u : Nat} {st tx : List Nat} {txs : List (List Nat)} (h : JFine f n gen st txs u) (h256 : ∀ b ∈ tx, b < 256) (hf : u + pn tx + 1 <= logOf n) (hF : ∀ j, F j = f j ∨ ∃ k, k < pn tx /\ j = ((logAt n + (u + k) : Nat) : Int) /\ F j = sealRes 3 gen ((u : Int) + (k : Int)) (prow tx k)) : JShow F n gen st txs u := by
 have ha := x2S n gen
 have hfit := h.ok.fit
 have hgl := h.ok.gle
 have hlo : logOf n <= 4096 := by have := h.ok.nle; unfold logOf; omega
 have hlow : ∀ j : Int, j < (logAt n + u : Nat) -> F j = f j := fun j hj => by
  rcases hF j with e | ⟨k, _, e, _⟩
  ·exact e
  ·omega
 refine ⟨h.ok.n8, h.ok.nle, h.ok.fit, h.ok.gle, h.ok.s256, h.ok.slen, ?_, ?_, ?_, LogF.frame txs 0 u h.ok.log (fun p _ hp => hlow _ (by omega)), h.ok.ule, fun p h1 h2 => ?_⟩
 ·rw [hlow _ (by unfold logAt; omega)]; exact h.ok.top
 ·rw [hlow _ (by unfold logAt; omega)]; exact h.ok.alt
 ·intro k hk
  rw [hlow _ (by omega)]; exact h.ok.parts k hk
 ·rcases hF ((logAt n + p : Nat) : Int) with e | ⟨k, hk, e1, e2⟩
  ·rw [e]; exact h.old p h1 h2 4 gen (by omega)
  ·rw [e2, x1K (by simp [isBoxB]; omega) (x1E _ _) (x3A h256 _)]
   simp
theorem JFine.cut_ckpt {f F : Int -> Sec} {n gen u : Nat} {st : List Nat} {txs : List (List Nat)} (h : JFine f n gen st txs u) (hF : ∀ j : Int, (j < stateAt n (gen + 1) ∨ ((stateAt n (gen + 1) + areaOf n : Nat) : Int) <= j) -> F j = f j) : JShow F n gen st txs u := by
 have ha := x2S n gen
 have hb := x2S n (gen + 1)
 have hfit := h.ok.fit
 have hap : stateAt n gen + areaOf n <= stateAt n (gen + 1) ∨ stateAt n (gen + 1) + areaOf n <= stateAt n gen := by
  unfold stateAt
  have : gen % 2 = 0 ∨ gen % 2 = 1 := by omega
  rcases this with e | e
  ·rw [e, show (gen + 1) % 2 = 1 by omega]; omega
  ·rw [e, show (gen + 1) % 2 = 0 by omega]; omega
 have hlog : ∀ p, F ((logAt n + p : Nat) : Int) = f ((logAt n + p : Nat) : Int) := fun p => hF _ (by right; omega)
 refine ⟨h.ok.n8, h.ok.nle, h.ok.fit, h.ok.gle, h.ok.s256, h.ok.slen, ?_, ?_, ?_, LogF.frame txs 0 u h.ok.log (fun p _ _ => hlog p), h.ok.ule, fun p h1 h2 => ?_⟩
 ·rw [hF _ (by left; omega)]; exact h.ok.top
 ·rw [hF _ (by left; omega)]; exact h.ok.alt
 ·intro k hk
  rw [hF _ (by omega)]; exact h.ok.parts k hk
 ·rw [hlog p]; exact h.old p h1 h2 4 gen (by omega)
end
section
open Go.RowKit
theorem xLB {n s l m : Nat} {f : Int -> Sec} (h1 : s + m < 4611686018427387904) (h2 : l <= 9223372036854775807) (h3 : m <= 1000000) : Far (DM.idle n f s l) m := ⟨h1, h2, by simpa [DM.idle] using h3⟩
end
section
open Go.RowKit
theorem Holds.lt {w0 w : World} {g : Nat} {d : DM} {X : List Nat} (h : Holds w0 w g d X) : ∀ k ∈ X, k < w.heap.size := by
 obtain ⟨F, h1, h2, h3⟩ := h
 exact fun k hk => (h3 k hk).2

end
section
open Go.RowKit
section
variable {w0 w : World} {g gj n gen u : Nat} {d : DM} {st : List Nat} {txs : List (List Nat)} {X : List Nat} {vs vt : Value}
theorem x9D (hJ : Blk w gj 176 (jcells n g gen vs vt u false)) (A : Option Addr) (m c : Nat) (hm : m <= 1000000) (hfull : areaOf n < pnN m) : Calls Tryz.prog 157 #[.pointer (some ⟨gj, 0, none⟩), .slice A m c] w fun e w' => e = .returned (errV 4) /\ Below w.heap.size w w' := by
 have q0 : w.cell? ⟨gj, 0, none⟩ = some (.int .i64 (areaOf n)) := hJ.cell 0
 have HJ := kH hJ
 clear hJ
 have hpe : partsOf m = pnN m := rfl
 have hd1 : decide ((areaOf n : Int) < (partsOf m : Int)) = true := by simp; omega
 have hd1' : decide (areaOf n < partsOf m) = true := by simp; omega
 clear hpe
 go_enter Tryz.func157, Tryz.ntmps157
 go_wp2_with fail
 refine (x3R HJ.out).mono ?_
 rintro e w' ⟨rfl, rfl⟩
 go_wp2
 go_quiet ((go_at_call 95; exact Calls.quiet_of_same ((x2J m _ (by omega)).mono fun e w' h => ⟨h.1, h.2.symm⟩)))
 go_wp2
 go_ret
 exact ⟨rfl, x1F (Below.refl _ _) _⟩
set_option maxHeartbeats 2000000 in
theorem x9G (h : Holds w0 w g d X) (hJ : Blk w gj 176 (jcells n g gen vs vt u false)) (hgj : gj ∈ X) (hgj0 : w0.heap.size <= gj) (hn : n <= 4096) (hgen : gen + 1 <= 4611686018427387904)
  (A : Option Addr) (c : Nat) (st : List Nat) (hst : Bytes w w.heap.size A st.length st) (hl : st.length <= 20000) (hlc : st.length <= c) (hcm : c <= 9223372036854775807) (hfit : pn st <= areaOf n)
  (hT : Tab w) (hw0 : 0 < w0.heap.size) (hAx : 0 < st.length -> ∀ k ∈ blkOf A, k ∈ X) (hf : Far d (pn st + 3)) (hok : (d.ckpt n (gen + 1) st).2 = 0) :
  Calls Tryz.prog 157 #[.pointer (some ⟨gj, 0, none⟩), .slice A st.length c] w fun e w' => ∃ B cc, e = .returned .nilIface /\ Holds w0 w' g (d.ckpt n (gen + 1) st).1 (blkOf B ++ X) /\ (∀ k ∈ blkOf B, w.heap.size <= k) ∧
   Blk w' gj 176 (jcells n g (gen + 1) (.slice B st.length cc) (.slice none 0 0) 0 false) /\ Own w' w.heap.size (.slice B st.length cc) st.length st /\ (∀ k ∈ X, k ≠ gj -> w'.heap[k]? = w.heap[k]?) /\ w.heap.size <= w'.heap.size := by
 have q0 : w.cell? ⟨gj, 0, none⟩ = some (.int .i64 (areaOf n)) := hJ.cell 0
 have q3 : ∀ nq, (w.drewN nq).cell? ⟨gj, 3, none⟩ = some (.int .i64 gen) := fun nq => hJ.cell 3
 have hXl := h.lt
 have HB := kH (fun nq => x9F (h.below (x1F (Below.refl w.heap.size w) nq)) (hJ.below (x1F (Below.refl w.heap.size w) nq) hJ.lt) hgj hgj0 hn (gen + 1) hgen A c st (hst.drewN nq) hl hlc hcm (x0O hT (x1F (Below.refl w.heap.size w) nq) (Nat.lt_of_lt_of_le hw0 h.size)) hw0 hAx hf hok)
 have HJ := kH hJ
 have HXl := kH hXl
 clear h hJ hst hT hok hXl
 have hpe : partsOf st.length = pn st := rfl
 have hd1 : decide ((areaOf n : Int) < (partsOf st.length : Int)) = false := by simp; omega
 have hd1' : decide (areaOf n < partsOf st.length) = false := by simp; omega
 have hge : ((gen + 1 : Nat) : Int) = (gen : Int) + 1 := by omega
 rw [hge] at HB
 clear hpe hge
 go_enter Tryz.func157, Tryz.ntmps157
 go_wp2_with fail
 refine (x3R HJ.out).mono ?_
 rintro e w' ⟨rfl, rfl⟩
 go_wp2
 go_quiet ((go_at_call 95; exact Calls.quiet_of_same ((x2J st.length _ (by omega)).mono fun e w' h => ⟨h.1, h.2.symm⟩)))
 go_wp2_with fail
 refine (HB.out _).mono ?_
 rintro e w1 ⟨B, cc, rfl, r1, r2, r3, r4, r5, r6⟩
 go_wp2
 go_ret
 exact ⟨B, cc, rfl, r1, r2, r3, r4, r5, r6⟩
end
end
section
open Go.RowKit
def Cuts (d : DM) (n : Nat) (st : List Nat) (txs : List (List Nat)) (st' : List Nat) (txs' : List (List Nat)) : Prop :=
  d.wait.length <= 1000000 /\ ∀ keep : List Bool, ∃ f s gen S T u, d.crash keep = DM.idle n f s 0 /\ JShow f n gen S T u /\ ((S = st /\ T = txs) ∨ (S = st' /\ T = txs'))
theorem x2M : ∀ (ss : List Sec) (i : Nat), (waitsOf i ss).length = ss.length
 | [], i => rfl
 | s :: ss, i => by simp [waitsOf, x2M ss]
theorem x8B {α : Type} (x : α) (m : Nat) (h : m <= 1) : m = 0 /\ [x].take m = [] ∨ m = 1 /\ [x].take m = [x] := by
 have : m = 0 ∨ m = 1 := by omega
 rcases this with rfl | rfl
 ·exact .inl ⟨rfl, rfl⟩
 ·exact .inr ⟨rfl, rfl⟩
theorem xMW {n s l gen u : Nat} {f : Int -> Sec} {st tx : List Nat} {txs : List (List Nat)} (h : JFine f n gen st txs u) (hne : tx ≠ []) (h256 : ∀ b ∈ tx, b < 256) (hl : tx.length <= 20000) (hf : u + pn tx + 1 <= logOf n) :
    (pn tx + 3 <= l -> (DM.arms n f s l).app n gen u tx = (DM.arms n (appF n f gen u tx) (s + pn tx + 3) (l - (pn tx + 3)), 0)) ∧
    (l < pn tx + 3 -> ((DM.arms n f s l).app n gen u tx).2 = 3 /\ Cuts ((DM.arms n f s l).app n gen u tx).1 n st txs st (txs ++ [tx])) := by
  have hin := x9Z h.ok.n8
  have hpn : pn tx <= 189 := by unfold pn; omega
  have hb1 : logAt n + u + (bodyS 3 gen u tx).length <= n := by rw [x0E]; omega
  have he1 : logAt n + (u + pn tx) + (endS gen (u + pn tx) (pn tx)).length <= n := by simp [endS]; omega
  have hbody : ∀ (kept : Nat -> Bool) (m : Nat) (j : Int), settled kept 0 (waitsOf (logAt n + u) ((bodyS 3 gen u tx).take m)) f j = f j ∨ ∃ k, k < pn tx /\ j = ((logAt n + (u + k) : Nat) : Int) /\ settled kept 0 (waitsOf (logAt n + u) ((bodyS 3 gen u tx).take m)) f j = sealRes 3 gen ((u : Int) + (k : Int)) (prow tx k) := fun kept m j => by
    rcases x43 kept ((bodyS 3 gen u tx).take m) (logAt n + u) 0 f j with e | ⟨k, x, e1, e2, e3⟩
    · exact .inl e
    · right
      rw [List.getElem?_take] at e1
      split at e1
      · have hk : k < pn tx := by
          have := (List.getElem?_eq_some_iff.1 e1).1
          rwa [x0E] at this
        rw [x7T hk] at e1
        injection e1 with e1
        exact ⟨k, hk, by rw [e2, Nat.add_assoc], by rw [e3, <- e1]; rfl⟩
      · cases e1
  constructor
  · intro hge
    have e1 := x38 n s l (logAt n + u) f (bodyS 3 gen u tx) hb1 (by rw [x0E]; omega)
    rw [x0E] at e1
    unfold DM.app
    rw [e1, if_pos rfl]
    show (DM.arms n _ _ _).putRow _ _ = _
    rw [x38 n _ _ _ _ _ he1 (by simp [endS]; omega)]
    show (DM.arms n _ (s + pn tx + 1 + 1 + 1) (l - (pn tx + 1) - (1 + 1)), 0) = _
    rw [show l - (pn tx + 1) - (1 + 1) = l - (pn tx + 3) by omega]
    rfl
  · intro hlt
    by_cases hfirst : l <= pn tx
    · have e1 := x4G n s l (logAt n + u) f (bodyS 3 gen u tx) hb1 (by rw [x0E]; exact hfirst)
      have e2 : (DM.arms n f s l).app n gen u tx = (DM.fell n f (waitsOf (logAt n + u) ((bodyS 3 gen u tx).take l)) (s + l), 3) := by
        unfold DM.app
        rw [e1, if_neg (by simp)]
      rw [e2]
      refine ⟨rfl, by show (waitsOf _ _).length <= _; rw [x2M, List.length_take, x0E]; omega, fun keep => ⟨_, _, gen, st, txs, u, x1M n _ f _ keep, h.cut_app h256 hf (hbody _ _), .inl ⟨rfl, rfl⟩⟩⟩
    · have e1 := x38 n s l (logAt n + u) f (bodyS 3 gen u tx) hb1 (by rw [x0E]; omega)
      rw [x0E] at e1
      have e2 := x4G n (s + pn tx + 1) (l - (pn tx + 1)) (logAt n + (u + pn tx)) (putF f (logAt n + u) (bodyS 3 gen u tx)) (endS gen (u + pn tx) (pn tx)) he1 (by simp [endS]; omega)
      have e3 : (DM.arms n f s l).app n gen u tx = (DM.fell n (putF f (logAt n + u) (bodyS 3 gen u tx)) (waitsOf (logAt n + (u + pn tx)) ((endS gen (u + pn tx) (pn tx)).take (l - (pn tx + 1)))) (s + pn tx + 1 + (l - (pn tx + 1))), 3) := by
        unfold DM.app
        rw [e1, if_pos rfl]
        exact e2
      have hold : JShow (putF f (logAt n + u) (bodyS 3 gen u tx)) n gen st txs u := h.cut_app h256 hf (fun j => by
        have := hbody (fun _ => true) (pn tx) j
        rw [List.take_of_length_le (by rw [x0E]; exact Nat.le_refl _), x21] at this
        exact this)
      rw [e3]
      refine ⟨rfl, by show (waitsOf _ _).length <= _; rw [x2M, List.length_take]; simp [endS]; omega, fun keep => ?_⟩
      rcases x8B (sealRes 4 gen (u + pn tx : Nat) (numB (pn tx))) (l - (pn tx + 1)) (by omega) with ⟨hm, ht⟩ | ⟨hm, ht⟩
      · refine ⟨_, _, gen, st, txs, u, x1M n _ _ _ keep, ?_, .inl ⟨rfl, rfl⟩⟩
        unfold endS
        rw [ht]
        exact hold
      · by_cases hkp : keptOf keep 0 = true
        · refine ⟨_, _, gen, st, txs ++ [tx], u + pn tx + 1, x1M n _ _ _ keep, ?_, .inr ⟨rfl, rfl⟩⟩
          have := (h.app hne h256 hf).show
          unfold endS
          rw [ht]
          unfold appF endS at this
          simp only [waitsOf, settled, hkp, if_true]
          exact this
        · refine ⟨_, _, gen, st, txs, u, x1M n _ _ _ keep, ?_, .inl ⟨rfl, rfl⟩⟩
          unfold endS
          rw [ht]
          simp only [waitsOf, settled]
          rw [if_neg hkp]
          exact hold
theorem xIF {n s l gen u : Nat} {f : Int -> Sec} {st st' : List Nat} {txs : List (List Nat)} (h : JFine f n gen st txs u) (h256 : ∀ b ∈ st', b < 256) (hl : st'.length <= 20000) (hf : pn st' <= areaOf n) (hg : gen + 1 <= 4611686018427387000) :
    (pn st' + 3 <= l -> (DM.arms n f s l).ckpt n (gen + 1) st' = (DM.arms n (ckptF n f (gen + 1) st') (s + pn st' + 3) (l - (pn st' + 3)), 0)) ∧
    (l < pn st' + 3 -> ((DM.arms n f s l).ckpt n (gen + 1) st').2 = 3 /\ Cuts ((DM.arms n f s l).ckpt n (gen + 1) st').1 n st txs st' []) := by
  have hin := xAB (g := gen + 1) h.ok.n8
  have h8 := h.ok.n8
  have hpn : pn st' <= 189 := by unfold pn; omega
  have hb1 : stateAt n (gen + 1) + (bodyS 2 (gen + 1) 0 st').length <= n := by rw [x0E]; omega
  have he1 : (gen + 1) % 2 + (topS (gen + 1) st').length <= n := by simp [topS]; omega
  have hbody : ∀ (kept : Nat -> Bool) (m : Nat), JShow (settled kept 0 (waitsOf (stateAt n (gen + 1)) ((bodyS 2 (gen + 1) 0 st').take m)) f) n gen st txs u := fun kept m => h.cut_ckpt (fun j hj => by
    rcases x43 kept ((bodyS 2 (gen + 1) 0 st').take m) (stateAt n (gen + 1)) 0 f j with e | ⟨k, x, e1, e2, e3⟩
    · exact e
    · rw [List.getElem?_take] at e1
      split at e1
      · have hk : k < pn st' := by
          have := (List.getElem?_eq_some_iff.1 e1).1
          rwa [x0E] at this
        omega
      · cases e1)
  constructor
  · intro hge
    have e1 := x38 n s l (stateAt n (gen + 1)) f (bodyS 2 (gen + 1) 0 st') hb1 (by rw [x0E]; omega)
    rw [x0E] at e1
    unfold DM.ckpt
    rw [e1, if_pos rfl]
    show (DM.arms n _ _ _).putRow _ _ = _
    rw [x38 n _ _ _ _ _ he1 (by simp [topS]; omega)]
    show (DM.arms n _ (s + pn st' + 1 + 1 + 1) (l - (pn st' + 1) - (1 + 1)), 0) = _
    rw [show l - (pn st' + 1) - (1 + 1) = l - (pn st' + 3) by omega]
    rfl
  · intro hlt
    by_cases hfirst : l <= pn st'
    · have e1 := x4G n s l (stateAt n (gen + 1)) f (bodyS 2 (gen + 1) 0 st') hb1 (by rw [x0E]; exact hfirst)
      have e2 : (DM.arms n f s l).ckpt n (gen + 1) st' = (DM.fell n f (waitsOf (stateAt n (gen + 1)) ((bodyS 2 (gen + 1) 0 st').take l)) (s + l), 3) := by
        unfold DM.ckpt
        rw [e1, if_neg (by simp)]
      rw [e2]
      exact ⟨rfl, by show (waitsOf _ _).length <= _; rw [x2M, List.length_take, x0E]; omega, fun keep => ⟨_, _, gen, st, txs, u, x1M n _ f _ keep, hbody _ _, .inl ⟨rfl, rfl⟩⟩⟩
    · have e1 := x38 n s l (stateAt n (gen + 1)) f (bodyS 2 (gen + 1) 0 st') hb1 (by rw [x0E]; omega)
      rw [x0E] at e1
      have e2 := x4G n (s + pn st' + 1) (l - (pn st' + 1)) ((gen + 1) % 2) (putF f (stateAt n (gen + 1)) (bodyS 2 (gen + 1) 0 st')) (topS (gen + 1) st') he1 (by simp [topS]; omega)
      have e3 : (DM.arms n f s l).ckpt n (gen + 1) st' = (DM.fell n (putF f (stateAt n (gen + 1)) (bodyS 2 (gen + 1) 0 st')) (waitsOf ((gen + 1) % 2) ((topS (gen + 1) st').take (l - (pn st' + 1)))) (s + pn st' + 1 + (l - (pn st' + 1))), 3) := by
        unfold DM.ckpt
        rw [e1, if_pos rfl]
        exact e2
      have hold : JShow (putF f (stateAt n (gen + 1)) (bodyS 2 (gen + 1) 0 st')) n gen st txs u := by
        have := hbody (fun _ => true) (pn st')
        rw [List.take_of_length_le (by rw [x0E]; exact Nat.le_refl _), x21] at this
        exact this
      rw [e3]
      refine ⟨rfl, by show (waitsOf _ _).length <= _; rw [x2M, List.length_take]; simp [topS]; omega, fun keep => ?_⟩
      rcases x8B (sealRes 1 (gen + 1 : Nat) 0 (numB st'.length)) (l - (pn st' + 1)) (by omega) with ⟨hm, ht⟩ | ⟨hm, ht⟩
      · refine ⟨_, _, gen, st, txs, u, x1M n _ _ _ keep, ?_, .inl ⟨rfl, rfl⟩⟩
        unfold topS
        rw [ht]
        exact hold
      · by_cases hkp : keptOf keep 0 = true
        · refine ⟨_, _, gen + 1, st', [], 0, x1M n _ _ _ keep, ?_, .inr ⟨rfl, rfl⟩⟩
          have := (h.ckpt hf h256 hl hg).show
          unfold topS
          rw [ht]
          unfold ckptF topS at this
          simp only [waitsOf, settled, hkp, if_true]
          exact this
        · refine ⟨_, _, gen, st, txs, u, x1M n _ _ _ keep, ?_, .inl ⟨rfl, rfl⟩⟩
          unfold topS
          rw [ht]
          simp only [waitsOf, settled]
          rw [if_neg hkp]
          exact hold

end
section
open Go.RowKit Go.BigFrame
def intS : Value -> Int
 | .int _ i => i
 | _ => 0
def flagsS (l : List Bool) : List Value := l.map Value.bool
def FirstAt (l : List Bool) (b : Bool) (r : Int) : Prop := (r = -1 /\ ∀ j, j < l.length -> l[j]? = some (!b)) ∨ ∃ k : Nat, r = (k : Int) /\ k < l.length /\ l[k]? = some b /\ ∀ j, j < k -> l[j]? = some (!b)
section
variable {w : World} {g : Nat} {A : Option Addr} {n c : Nat} {left : Int}
theorem x41 (h : Blk w g 190 #[.slice A n c, .int .i64 left]) : Calls Tryz.prog 57 #[.pointer (some ⟨g, 0, none⟩)] w fun e w' => e = .returned (.int .i64 (n : Int)) /\ w = w' := by
 have q0 : w.cell? ⟨g, 0, none⟩ = some (.slice A n c) := h.cell 0
 clear h
 go_enter Tryz.func57, Tryz.ntmps57
 go_wp2
 go_ret
 exact ⟨rfl, rfl⟩
theorem xJS (h : Blk w g 190 #[.slice A n c, .int .i64 left]) : Calls Tryz.prog 212 #[.pointer (some ⟨g, 0, none⟩)] w fun e w' => e = .returned (.int .i64 left) /\ w = w' := by
 have q1 : w.cell? ⟨g, 1, none⟩ = some (.int .i64 left) := h.cell 1
 clear h
 go_enter Tryz.func212, Tryz.ntmps212
 go_wp2
 go_ret
 exact ⟨rfl, rfl⟩
end
set_option maxHeartbeats 1000000 in
theorem xB2 (A : Option Addr) (c B : Nat) (l : List Bool) (b : Bool) (w : World) (hR : Reads w B 1 A l.length (flagsS l)) (hl : l.length <= 1000000000) :
  Calls Tryz.prog 280 #[.slice A l.length c, .bool b] w fun e w' => ∃ r : Int, e = .returned (.int .i64 r) /\ w = w' /\ FirstAt l b r := by
 have HR := kH hR
 clear hR
 go_enter Tryz.func280, Tryz.ntmps280
 go_wp2
 go_loopw [8] (fun i wr => ∃ k : Nat, k <= l.length /\ i = .int .i64 k /\ wr = w /\ ∀ j, j < k -> l[j]? = some (!b)) (fun i _ => l.length - (intS i).toNat)
 case atStart => exact ⟨0, by omega, rfl, rfl, fun j h => by omega⟩
 case round =>
  obtain ⟨k, hk, rfl, rfl, hall⟩ := hrel
  have HALL := kH hall
  clear hall
  by_cases hlt : k < l.length
  ·obtain ⟨ad, u, rfl, -, hu, hc⟩ := HR.out.at_ hlt
   obtain ⟨x, hx, rfl⟩ : ∃ x, l[k]? = some x /\ u = .bool x := by
    simp only [flagsS, List.getElem?_map, List.getElem?_eq_getElem hlt, Option.map_some, Option.some.injEq] at hu
    exact ⟨_, List.getElem?_eq_getElem hlt, hu.symm⟩
   have HX := kH hx
   clear hu hx
   by_cases hb : b = x
   ·have hq : (b == x) = true := by simp [hb]
    go_wp2
    go_ret
    exact ⟨k, rfl, rfl, .inr ⟨k, rfl, hlt, by rw [HX.out, hb], HALL.out⟩⟩
   ·have hq : (b == x) = false := by simpa using hb
    go_wp2
    go_roundw
    case rel =>
     refine ⟨k + 1, by omega, by go_num, by trivial, fun j hj => ?_⟩
     rcases Nat.lt_succ_iff_lt_or_eq.1 hj with h | rfl
     ·exact HALL.out j h
     ·rw [HX.out]; cases b <;> cases x <;> simp_all
    case measure => simp [intS]; omega
  ·obtain rfl : k = l.length := by omega
   go_wp2
   go_ret
   exact ⟨-1, rfl, rfl, .inl ⟨rfl, HALL.out⟩⟩
set_option maxHeartbeats 1000000 in
theorem xCY (A : Option Addr) (c B : Nat) (l : List Bool) (b : Bool) (w : World) (hR : Reads w B 1 A l.length (flagsS l)) (hl : l.length <= 1000000000) :
  Calls Tryz.prog 272 #[.slice A l.length c, .bool b] w fun e w' => ∃ r : Bool, e = .returned (.bool r) /\ w = w' /\ (r = true ↔ b ∈ l) := by
 have HR := kH hR
 clear hR
 go_enter Tryz.func272, Tryz.ntmps272
 go_wp2_with fail
 refine (xB2 A c B l b w HR.out hl).mono ?_
 rintro e w' ⟨r, rfl, rfl, hf⟩
 rcases hf with ⟨rfl, hall⟩ | ⟨k, rfl, h1, h2, -⟩
 ·have HALL := kH hall
  clear hall
  go_wp2
  go_ret
  refine ⟨false, rfl, rfl, by simp, fun hm => ?_⟩
  obtain ⟨j, hj, e⟩ := List.mem_iff_getElem.1 hm
  have := HALL.out j hj
  rw [List.getElem?_eq_getElem hj, e] at this
  cases b <;> simp at this
 ·have H2 := kH h2
  clear h2
  have hd : decide ((0 : Int) <= (k : Int)) = true := decide_eq_true (by omega)
  go_wp2
  go_ret
  exact ⟨true, rfl, rfl, fun _ => List.mem_of_getElem? H2.out, fun _ => rfl⟩
end
section
open Go.RowKit Go.BigFrame
theorem x4A (bs : List Nat) : (strOf bs).size = bs.length := by simp [strOf, strOfNums_size]
theorem xHC (w : World) (bs : List Nat) (hb : ∀ b ∈ bs, b < 256) : ∃ cap w', (convert 9 35 (.string (strOf bs))).run Tryz.prog w = .ok (.slice (some ⟨w.heap.size, 0, none⟩) bs.length cap) w' /\ Below w.heap.size w w' /\ Bytes w' (w.heap.size + 1) (some ⟨w.heap.size, 0, none⟩) bs.length bs := by
 have h := Lib.run_convert_string_bytes (P := Tryz.prog) w 9 35 5 (strOf bs) Tryz.underlying9 Tryz.underlying35 Tryz.underlying5
 rw [x4A] at h
 refine ⟨_, _, h, ⟨rfl, rfl, rfl, by rw [Lib.bytesWorld_size]; omega, fun i hi => Lib.bytesWorld_at_old _ _ _ _ hi⟩, ⟨⟨by simp [u8s], fun hn => ⟨_, rfl, Nat.lt_succ_self _, fun j u hu => ?_⟩⟩, hb⟩⟩
 have hj : j < bs.length := by
  rcases Nat.lt_or_ge j bs.length with h' | h'
  ·exact h'
  ·rw [List.getElem?_eq_none (by rw [x0C]; exact h')] at hu; cases hu
 rw [x15, Lib.bytesWorld_cell _ _ _ _ (by rw [x4A]; exact hj), <- hu]
 have hbj := hb _ (List.getElem_mem hj)
 simp [strOf, strOfNums_data, u8s, u8, hj]
 omega
def okChar (b : Nat) : Bool := decide (33 <= b) && decide (b <= 126)
def isNameB (bs : List Nat) : Bool := decide (1 <= bs.length) && decide (bs.length <= 32) && bs.all okChar
def isClientB (n : Int) : Bool := decide (0 <= n) && decide (n < 8)
theorem x2C (n : Int) (w : World) : Calls Tryz.prog 61 #[.int .i64 n] w fun e w' => e = .returned (.bool (isClientB n)) /\ w = w' := by
 unfold isClientB
 by_cases h1 : 0 <= n
 ·have hd1 : decide ((0 : Int) <= n) = true := decide_eq_true h1
  by_cases h2 : n < 8
  ·have hd2 : decide (n < (8 : Int)) = true := decide_eq_true h2
   go_enter Tryz.func61, Tryz.ntmps61
   go_wp2
   go_ret
   exact ⟨by simp [hd1, hd2], rfl⟩
  ·have hd2 : decide (n < (8 : Int)) = false := decide_eq_false h2
   go_enter Tryz.func61, Tryz.ntmps61
   go_wp2
   go_ret
   exact ⟨by simp [hd1, hd2], rfl⟩
 ·have hd1 : decide ((0 : Int) <= n) = false := decide_eq_false h1
  go_enter Tryz.func61, Tryz.ntmps61
  go_wp2
  go_ret
  exact ⟨by simp [hd1], rfl⟩
theorem xNX (b : Nat) (hb : b < 256) (w : World) : Calls Tryz.prog 111 #[.int .u8 (b : Int)] w fun e w' => e = .returned (.bool (!okChar b)) /\ w = w' := by
 unfold okChar
 by_cases h1 : b < 33
 ·have hd1 : decide ((b : Int) < 33) = true := decide_eq_true (by omega)
  have hd1' : decide (b < 33) = true := decide_eq_true h1
  have hr : (!(decide (33 <= b) && decide (b <= 126))) = true := by simp; omega
  go_enter Tryz.func111, Tryz.ntmps111
  go_wp2
  go_ret
  exact ⟨by rw [hr]; rfl, rfl⟩
 ·have hd1 : decide ((b : Int) < 33) = false := decide_eq_false (by omega)
  have hd1' : decide (b < 33) = false := decide_eq_false h1
  by_cases h2 : 126 < b
  ·have hd2 : decide ((126 : Int) < (b : Int)) = true := decide_eq_true (by omega)
   have hd2' : decide (126 < b) = true := decide_eq_true h2
   have hr : (!(decide (33 <= b) && decide (b <= 126))) = true := by simp; omega
   go_enter Tryz.func111, Tryz.ntmps111
   go_wp2
   go_ret
   exact ⟨by rw [hr]; rfl, rfl⟩
  ·have hd2 : decide ((126 : Int) < (b : Int)) = false := decide_eq_false (by omega)
   have hd2' : decide (126 < b) = false := decide_eq_false h2
   have hr : (!(decide (33 <= b) && decide (b <= 126))) = false := by simp; omega
   go_enter Tryz.func111, Tryz.ntmps111
   go_wp2
   go_ret
   exact ⟨by rw [hr]; rfl, rfl⟩
def oddV : Value := .func (.func 111) #[] #[]
set_option maxHeartbeats 2000000 in
theorem xIC {w : World} {B c : Nat} {A : Option Addr} {bs : List Nat} (h : Bytes w B A bs.length bs) (hl : bs.length <= 65536) :
  Calls Tryz.prog 160 #[.slice A bs.length c, oddV] w fun e w' => (∃ v : Int, e = .returned (.int .i64 v) /\ ((v = -1 /\ bs.all okChar = true) ∨ (0 <= v /\ bs.all okChar = false))) /\ w = w' := by
 have H := kH h
 clear h
 go_enter Tryz.func160, Tryz.ntmps160
 unfold oddV
 go_wp2
 go_loopw [8] (fun i wr => ∃ k : Nat, k <= bs.length /\ i = .int .i64 k /\ wr = w /\ ∀ j b, j < k -> bs[j]? = some b -> okChar b = true) (fun i _ => bs.length - (intS i).toNat)
 case atStart => exact ⟨0, by omega, rfl, by trivial, fun j b h => by omega⟩
 case round =>
  obtain ⟨k, hk, rfl, rfl, hall⟩ := hrel
  have HA := kH hall
  clear hall
  by_cases hlt : k < bs.length
  ·obtain ⟨ad, b, rfl, hb, hb2, hc⟩ := H.out.at_ hlt
   have HB := kH hb
   have HO := kH (xNX b hb2 wr)
   have hwk : IntKind.i64.wrap ((k : Int) + 1) = (k : Int) + 1 := by rw [IntKind.wrap_i64]; omega
   clear hb
   go_wp2_with fail
   refine HO.out.mono ?_
   rintro e w' ⟨rfl, rfl⟩
   clear HO
   by_cases hok : okChar b = true
   ·have HOK := kH hok
    rw [hok]
    clear hok
    go_wp2
    go_roundw
    case rel => exact ⟨k + 1, by omega, by go_num, by trivial, fun j b' hj hb' => by
     rcases Nat.lt_succ_iff_lt_or_eq.1 hj with h | rfl
     ·exact HA.out j b' h hb'
     ·rw [HB.out] at hb'; injection hb' with hb'; subst hb'; exact HOK.out⟩
    case measure => simp [intS]; omega
   ·have hok' : okChar b = false := by simpa using hok
    have HOK := kH hok'
    rw [hok']
    clear hok hok'
    go_wp2
    go_ret
    refine ⟨⟨_, rfl, .inr ⟨by omega, ?_⟩⟩, rfl⟩
    rw [List.all_eq_false]
    exact ⟨b, List.mem_of_getElem? HB.out, by rw [HOK.out]; simp⟩
  ·obtain rfl : k = bs.length := by omega
   go_wp2
   go_ret
   refine ⟨⟨_, rfl, .inl ⟨rfl, ?_⟩⟩, rfl⟩
   rw [List.all_eq_true]
   intro b hb
   obtain ⟨j, hj, rfl⟩ := List.mem_iff_getElem.1 hb
   exact HA.out j _ hj (List.getElem?_eq_getElem hj)
theorem xDR {w : World} {B c : Nat} {A : Option Addr} {bs : List Nat} (h : Bytes w B A bs.length bs) (hl : bs.length <= 65536) :
  Calls Tryz.prog 112 #[.slice A bs.length c, oddV] w fun e w' => e = .returned (.bool (!bs.all okChar)) /\ w = w' := by
 have HI := kH (xIC (c := c) h hl)
 clear h
 go_enter Tryz.func112, Tryz.ntmps112
 go_wp2_with fail
 refine HI.out.mono ?_
 rintro e w' ⟨⟨v, rfl, hv⟩, rfl⟩
 rcases hv with ⟨rfl, hv⟩ | ⟨hv0, hv⟩
 ·have HV := kH hv
  clear hv
  go_wp2
  go_ret
  exact ⟨by rw [HV.out]; rfl, rfl⟩
 ·have HV := kH hv
  have hd : decide ((0 : Int) <= v) = true := decide_eq_true hv0
  clear hv
  go_wp2
  go_ret
  exact ⟨by rw [HV.out]; rfl, rfl⟩
set_option maxHeartbeats 1000000 in
theorem x3S (bs : List Nat) (hb : ∀ b ∈ bs, b < 256) (hl : bs.length <= 1000000) (w : World) : Calls Tryz.prog 63 #[.string (strOf bs)] w fun e w' => e = .returned (.bool (isNameB bs)) /\ Below w.heap.size w w' := by
 have hsz := x4A bs
 unfold isNameB
 by_cases h1 : 1 <= bs.length
 ·have hd1 : decide ((1 : Int) <= (bs.length : Int)) = true := decide_eq_true (by omega)
  have hd1' : decide (1 <= bs.length) = true := decide_eq_true h1
  by_cases h2 : bs.length <= 32
  ·have hd2 : decide ((bs.length : Int) <= 32) = true := decide_eq_true (by omega)
   have hd2' : decide (bs.length <= 32) = true := decide_eq_true h2
   have HB := kH hb
   clear hb
   obtain ⟨cap, w2, hr, hbl, hby⟩ := xHC w bs HB.out
   have HC := kH (xDR (c := cap) hby (by omega))
   have HBL := kH hbl
   unfold oddV at HC
   clear hbl hby
   go_enter Tryz.func63, Tryz.ntmps63
   go_wp2_with fail
   refine HC.out.mono ?_
   rintro e w' ⟨rfl, rfl⟩
   have hr' : ∀ q, (decide (1 <= bs.length) && decide (bs.length <= 32) && q) = q := fun q => by rw [hd1', hd2']; cases q <;> rfl
   rcases Bool.eq_false_or_eq_true (bs.all okChar) with hall | hall
   ·rw [hall]
    have HA := kH hall
    clear hall
    go_wp2
    go_ret
    exact ⟨by rw [hr', HA.out]; rfl, HBL.out⟩
   ·rw [hall]
    have HA := kH hall
    clear hall
    go_wp2
    go_ret
    exact ⟨by rw [hr', HA.out]; rfl, HBL.out⟩
  ·have hd2 : decide ((bs.length : Int) <= 32) = false := decide_eq_false (by omega)
   have hd2' : decide (bs.length <= 32) = false := decide_eq_false h2
   have hr' : (decide (1 <= bs.length) && decide (bs.length <= 32) && bs.all okChar) = false := by rw [hd1', hd2']; rfl
   rw [hr']
   go_enter Tryz.func63, Tryz.ntmps63
   go_wp2
   go_ret
   exact ⟨rfl, Below.refl _ _⟩
 ·have hd1 : decide ((1 : Int) <= (bs.length : Int)) = false := decide_eq_false (by omega)
  have hd1' : decide (1 <= bs.length) = false := decide_eq_false h1
  have hr' : (decide (1 <= bs.length) && decide (bs.length <= 32) && bs.all okChar) = false := by rw [hd1']; rfl
  rw [hr']
  go_enter Tryz.func63, Tryz.ntmps63
  go_wp2
  go_ret
  exact ⟨rfl, Below.refl _ _⟩
end
section
open Go.RowKit Go.BigFrame
theorem xBZ (A : Option Addr) (m c k : Nat) (hk : k <= m) (w : World) : (Instr.slice 23 (.slice A m c) (some (.int .i64 k)) none none).run Tryz.prog w = .ok (.slice (if c = k then A else A.map (·.add (k * 1))) (m - k) (c - k)) w := by
 have hsz : ∀ w, (sizeOf (Tryz.prog.elem 23)).run Tryz.prog w = .ok 1 w := fun w => by kernel_rfl
 rw [run_slice_l w 23 A m c (by kernel_rfl) .i64 k (by omega) (by omega), hsz]
 simp only [Result.andThen, sliced, Int.toNat_natCast]
def runOf (l : List Bool) : Nat := (l.takeWhile id).length
theorem xFL : ∀ {l : List Bool}, (∀ j, j < l.length -> l[j]? = some true) -> runOf l = l.length
 | [], _ => rfl
 | b :: l, h => by
  have h0 := h 0 (by simp)
  simp at h0
  subst h0
  have := xFL (l := l) (fun j hj => by simpa using h (j + 1) (by simpa using hj))
  simp [runOf] at this ⊢
  exact this
theorem xK6 : ∀ {l : List Bool} {k : Nat}, l[k]? = some false -> (∀ j, j < k -> l[j]? = some true) -> runOf l = k
 | [], k, h, _ => by simp at h
 | b :: l, 0, h, _ => by
  simp at h
  subst h
  simp [runOf]
 | b :: l, k + 1, h, h' => by
  have h0 := h' 0 (by omega)
  simp at h0
  subst h0
  have := xK6 (l := l) (k := k) (by simpa using h) (fun j hj => by simpa using h' (j + 1) (by omega))
  simp [runOf] at this ⊢
  exact this
theorem xPD (l : List Bool) : runOf l <= l.length := by
 induction l with
 | nil => simp [runOf]
 | cons b l ih => cases b <;> simp [runOf] at ih ⊢ <;> omega
set_option maxHeartbeats 300000 in
theorem xD0 {w : World} {g : Nat} {A : Option Addr} {c : Nat} {left : Int} (fl : List Bool) (k : Nat) (hk : k <= fl.length) (hc : fl.length <= c) (hl : fl.length <= 1000000000) (h : Blk w g 190 #[.slice A fl.length c, .int .i64 left]) {B : Nat} (hR : Reads w B 1 A fl.length (flagsS fl)) :
  Calls Tryz.prog 254 #[.pointer (some ⟨g, 0, none⟩), .int .i64 k] w fun e w' => e = .returned (.int .i64 (runOf (fl.drop k) : Nat)) /\ w = w' := by
 have q0 : w.cell? ⟨g, 0, none⟩ = some (.slice A fl.length c) := h.cell 0
 have hcut := hR.cut hk hc
 have hd : (fl.drop k).length = fl.length - k := List.length_drop
 rw [show (flagsS fl).drop (k * 1) = flagsS (fl.drop k) from by rw [Nat.mul_one, flagsS, flagsS, List.map_drop], <- hd] at hcut
 have hsl := xBZ A fl.length c k hk
 generalize hAc : (if c = k then A else A.map (·.add (k * 1))) = Ac at *
 generalize fl.drop k = l at *
 have hi := fun w' (e : w' = w) => xB2 Ac (c - k) B l false w' (e ▸ hcut) (by omega)
 simp only [hd] at hi
 have HI := kH hi
 have HL := kH (x41 h)
 have HD := kH hd
 clear hcut h hR hAc hi hd
 have hk' : ((fl.length : Int) - (k : Int)) = ((fl.length - k : Nat) : Int) := by omega
 go_enter Tryz.func254, Tryz.ntmps254
 go_wp2_with fail
 refine (HI.out _ rfl).mono ?_
 rintro e w' ⟨r, rfl, rfl, hf⟩
 rcases hf with ⟨rfl, hall⟩ | ⟨j, rfl, h1, h2, h3⟩
 ·have HR := kH (xFL hall)
  clear hall
  go_wp2_with fail
  refine HL.out.mono ?_
  rintro e w' ⟨rfl, rfl⟩
  go_wp2
  go_ret
  rw [HR.out, HD.out]
  exact ⟨by go_num, rfl⟩
 ·have HR := kH (xK6 h2 h3)
  have hd0 : decide ((j : Int) < 0) = false := decide_eq_false (by omega)
  clear h2 h3
  go_wp2
  go_ret
  rw [HR.out]
  exact ⟨rfl, rfl⟩
end
section
open Go.RowKit Go.BigFrame
theorem x08 {B : Nat} {a w : World} (h : Below B a w) (q : Nat) : Below B a (w.drewN q) := ⟨h.os, h.tape, h.output, h.size, h.block⟩
set_option maxHeartbeats 1000000 in
theorem xKY {w : World} {g : Nat} {A : Option Addr} {c : Nat} {left : Int} (fl : List Bool) (x y : Int) (b : Bool) (hx1 : -9223372036854775808 <= x) (hx2 : x <= 9223372036854775807) (hy1 : -9223372036854775808 <= y) (hy2 : y <= 9223372036854775807) (hl : fl.length <= 1000000000)
  (h : Blk w g 190 #[.slice A fl.length c, .int .i64 left]) (hno : y < 1 ∨ x < 0 ∨ (fl.length : Int) < x + y) :
  Calls Tryz.prog 249 #[.pointer (some ⟨g, 0, none⟩), .agg #[.int .i64 x, .int .i64 y], .bool b] w fun e w' => e = .returned (.bool false) /\ Below w.heap.size w w' := by
 have H := kH h
 clear h
 by_cases h1 : y < 1
 ·have hd1 : decide (y < 1) = true := decide_eq_true h1
  clear hno
  go_enter Tryz.func249, Tryz.ntmps249
  go_wp2
  go_quiet (fail)
  go_wp2
  go_ret
  exact ⟨rfl, x08 ((Below.refl _ _).alloc (Nat.le_refl _) _) _⟩
 ·have hd1 : decide (y < 1) = false := decide_eq_false h1
  by_cases h2 : x < 0
  ·have hd2 : decide (x < 0) = true := decide_eq_true h2
   clear hno
   go_enter Tryz.func249, Tryz.ntmps249
   go_wp2
   go_quiet (fail)
   go_wp2
   go_ret
   exact ⟨rfl, x08 ((Below.refl _ _).alloc (Nat.le_refl _) _) _⟩
  ·have hd2 : decide (x < 0) = false := decide_eq_false h2
   have h3 : (fl.length : Int) - y < x := by omega
   have hd3 : decide ((fl.length : Int) - y < x) = true := decide_eq_true h3
   have hy3 : 1 <= y := by omega
   have hx3 : 0 <= x := by omega
   have hwr : IntKind.i64.wrap ((fl.length : Int) - y) = (fl.length : Int) - y := by rw [IntKind.wrap_i64]; omega
   clear hno
   go_enter Tryz.func249, Tryz.ntmps249
   go_wp2_with fail
   go_quiet ((go_at_call 57; exact Calls.quiet_of_same ((x41 ((H.out.alloc _).drewN _)).mono fun e w' h => ⟨h.1, h.2.symm⟩)))
   go_wp2
   go_ret
   exact ⟨rfl, x08 ((Below.refl _ _).alloc (Nat.le_refl _) _) _⟩
theorem xA3 (A : Option Addr) (m c i k : Nat) (hk : i + k <= m) (hc : m <= c) (w : World) : (Instr.slice 23 (.slice A m c) (some (.int .i64 i)) (some (.int .i64 ((i : Int) + (k : Int)))) none).run Tryz.prog w = .ok (.slice (if c = i then A else A.map (·.add (i * 1))) k (c - i)) w := by
 have hsz : ∀ w, (sizeOf (Tryz.prog.elem 23)).run Tryz.prog w = .ok 1 w := fun w => by kernel_rfl
 rw [run_slice_lh w 23 A m c (by kernel_rfl) .i64 .i64 i ((i : Int) + (k : Int)) (by omega) (by omega) (by omega), hsz]
 simp only [Result.andThen, sliced, Int.toNat_natCast]
 rw [show ((i : Int) + (k : Int)).toNat - i = k by omega]
set_option maxHeartbeats 1000000 in
theorem xOR {w : World} {g : Nat} {A : Option Addr} {c : Nat} {left : Int} (fl : List Bool) (i k : Nat) (b : Bool) (hk : 1 <= k) (hik : i + k <= fl.length) (hc : fl.length <= c) (hl : fl.length <= 1000000000)
  (h : Blk w g 190 #[.slice A fl.length c, .int .i64 left]) {B : Nat} (hB : B <= w.heap.size) (hR : Reads w B 1 A fl.length (flagsS fl)) :
  Calls Tryz.prog 249 #[.pointer (some ⟨g, 0, none⟩), .agg #[.int .i64 (i : Int), .int .i64 (k : Int)], .bool b] w fun e w' => ∃ r : Bool, e = .returned (.bool r) /\ Below w.heap.size w w' /\ (r = true ↔ ∀ z ∈ (fl.drop i).take k, z = b) := by
 have H := kH h
 have hcut := (hR.cut (k := i) (by omega) hc).take (k := k) (by omega)
 have hd : ((fl.drop i).take k).length = k := by rw [List.length_take, List.length_drop]; omega
 rw [show ((flagsS fl).drop (i * 1)).take k = flagsS ((fl.drop i).take k) from by rw [Nat.mul_one, flagsS, flagsS, List.map_take, List.map_drop]] at hcut
 have hsl := xA3 A fl.length c i k hik hc
 generalize hAc : (if c = i then A else A.map (·.add (i * 1))) = Ac at *
 generalize (fl.drop i).take k = l at *
 have HC := kH (fun w' (hw : Below B w w') => (show Calls Tryz.prog 272 #[.slice Ac k (c - i), .bool (!b)] w' (fun e w'' => e = .returned (.bool (decide ((!b) ∈ l))) /\ w'' = w') from by
  have h0 := xCY Ac (c - i) B l (!b) w' (by rw [hd]; exact hcut.below hw) (by omega)
  rw [hd] at h0
  refine h0.mono ?_
  rintro e w'' ⟨r, rfl, rfl, hr⟩
  refine ⟨?_, rfl⟩
  have : r = decide ((!b) ∈ l) := by rw [Bool.eq_iff_iff, decide_eq_true_eq]; exact hr
  rw [this]))
 clear h hR hAc hcut hd
 have hd1 : decide ((k : Int) < 1) = false := decide_eq_false (by omega)
 have hd2 : decide ((i : Int) < 0) = false := decide_eq_false (by omega)
 have hd3 : decide ((fl.length : Int) - (k : Int) < (i : Int)) = false := decide_eq_false (by omega)
 have hwr : IntKind.i64.wrap ((fl.length : Int) - (k : Int)) = (fl.length : Int) - (k : Int) := by rw [IntKind.wrap_i64]; omega
 have hwr2 : IntKind.i64.wrap ((i : Int) + (k : Int)) = (i : Int) + (k : Int) := by rw [IntKind.wrap_i64]; omega
 have q0 : ∀ o, (w.alloc o).cell? ⟨g, 0, none⟩ = some (.slice A fl.length c) := fun o => (H.out.alloc o).cell 0
 go_enter Tryz.func249, Tryz.ntmps249
 go_wp2_with fail
 go_quiet ((go_at_call 57; exact Calls.quiet_of_same ((x41 ((H.out.alloc _).drewN _)).mono fun e w' h => ⟨h.1, h.2.symm⟩)))
 have hbw : ∀ o n, Below B w ((w.alloc o).drewN n) := fun o n => x08 ((Below.refl _ _).alloc hB _) _
 go_wp2_with fail
 go_quiet ((go_at_call 272; exact (HC.out _ (hbw _ _)).mono (fun e w' h => ⟨h.1, _, h.2⟩)))
 go_wp2
 go_ret
 refine ⟨_, rfl, x08 (x08 ((Below.refl _ _).alloc (Nat.le_refl _) _) _) _, ?_⟩
 simp only [Bool.not_eq_true', decide_eq_false_iff_not]
 refine ⟨fun h z hz => ?_, fun h hm => ?_⟩
 ·cases z <;> cases b <;> simp_all
 ·have := h _ hm
  cases b <;> simp at this
end
section
def grow (i : Nat) : List Bool -> List (Nat × Nat) -> List (Nat × Nat)
 | true :: _, (_, n) :: r => (i, n + 1) :: r
 | _, h => (i, 1) :: h
def hol : Nat -> List Bool -> List (Nat × Nat)
 | _, [] => []
 | i, false :: l => hol (i + 1) l
 | i, true :: l => grow i l (hol (i + 1) l)
theorem xCI (i : Nat) (l : List Bool) : hol i (true :: l) = grow i l (hol (i + 1) l) := rfl
theorem xIT (l : List Bool) : l = List.replicate (runOf l) true ++ l.drop (runOf l) /\ (l.drop (runOf l) = [] ∨ ∃ r, l.drop (runOf l) = false :: r) := by
 induction l with
 | nil => simp [runOf]
 | cons b l ih =>
  cases b
  ·simp [runOf]
  ·have e : runOf (true :: l) = runOf l + 1 := by simp [runOf]
   rw [e]
   simp only [List.replicate_succ, List.drop_succ_cons, List.cons_append, List.cons.injEq, true_and]
   exact ih
theorem x7K {P : List Bool -> Prop} (h0 : P []) (hf : ∀ l, P l -> P (false :: l)) (ha : ∀ n, P (List.replicate (n + 1) true)) (hr : ∀ n l, P l -> P (List.replicate (n + 1) true ++ false :: l)) : ∀ l, P l := by
 intro l
 induction hn : l.length using Nat.strongRecOn generalizing l with
 | _ n ih =>
  obtain ⟨h1, h2⟩ := xIT l
  have ha' := fun k (hk : 0 < k) => (show P (List.replicate k true) from by obtain ⟨m, rfl⟩ : ∃ m, k = m + 1 := ⟨k - 1, by omega⟩; exact ha m)
  have hr' := fun k (hk : 0 < k) r (h : P r) => (show P (List.replicate k true ++ false :: r) from by obtain ⟨m, rfl⟩ : ∃ m, k = m + 1 := ⟨k - 1, by omega⟩; exact hr m r h)
  by_cases hz : runOf l = 0
  ·rw [hz] at h1 h2
   simp at h1 h2
   rcases h2 with h2 | ⟨r, h2⟩
   ·subst h2; exact h0
   ·subst h2
    exact hf _ (ih r.length (by simp at hn; omega) r rfl)
  ·rcases h2 with h2 | ⟨r, h2⟩
   ·rw [h2, List.append_nil] at h1
    rw [h1]
    exact ha' _ (by omega)
   ·rw [h2] at h1
    have hl : l.length = runOf l + (r.length + 1) := by
     have := congrArg List.length h1
     simpa using this
    rw [h1]
    exact hr' _ (by omega) r (ih r.length (by omega) r rfl)
theorem x7N (n i : Nat) : hol i (List.replicate (n + 1) true) = [(i, n + 1)] := by
 induction n generalizing i with
 | zero => rfl
 | succ n ih =>
  rw [List.replicate_succ]
  have e : List.replicate (n + 1) true = true :: List.replicate n true := List.replicate_succ
  have h := ih (i + 1)
  rw [e] at h ⊢
  rw [xCI i, h]
  rfl
theorem x7H (n i : Nat) (l : List Bool) : hol i (List.replicate (n + 1) true ++ false :: l) = (i, n + 1) :: hol (i + n + 2) l := by
 induction n generalizing i with
 | zero => rfl
 | succ n ih =>
  rw [List.replicate_succ, List.cons_append]
  have e : List.replicate (n + 1) true ++ false :: l = true :: (List.replicate n true ++ false :: l) := by rw [List.replicate_succ, List.cons_append]
  have h := ih (i + 1)
  rw [e] at h ⊢
  rw [xCI i, h, show i + 1 + n + 2 = i + (n + 1) + 2 by omega]
  rfl
theorem xP5 (n : Nat) : runOf (List.replicate n true) = n := by
 induction n with
 | zero => simp [runOf]
 | succ n ih => rw [List.replicate_succ]; simp [runOf] at ih ⊢
theorem xLP (n : Nat) (l : List Bool) : runOf (List.replicate n true ++ false :: l) = n := by
 induction n with
 | zero => simp [runOf]
 | succ n ih => rw [List.replicate_succ]; simp [runOf] at ih ⊢
theorem xJ9 (l : List Bool) (i : Nat) (h : runOf l = 0) : hol i l = hol (i + 1) (l.drop 1) := by
 cases l with
 | nil => rfl
 | cons b l =>
  cases b
  ·rfl
  ·simp [runOf] at h
theorem xL8 (l : List Bool) (i : Nat) (h : 0 < runOf l) : hol i l = (i, runOf l) :: hol (i + runOf l + 1) (l.drop (runOf l + 1)) := by
 revert h i
 refine x7K (P := fun l => ∀ i, 0 < runOf l -> hol i l = (i, runOf l) :: hol (i + runOf l + 1) (l.drop (runOf l + 1))) ?_ ?_ ?_ ?_ l
 ·intro i h; simp [runOf] at h
 ·intro l _ i h; simp [runOf] at h
 ·intro n i _
  rw [xP5, x7N, List.drop_of_length_le (by simp)]
  rfl
 ·intro n l _ i _
  rw [xLP, x7H]
  have : List.drop (n + 1 + 1) (List.replicate (n + 1) true ++ false :: l) = l := by
   rw [List.drop_append, List.drop_of_length_le (by simp)]; simp
  rw [this]; rfl
def setR (l : List Bool) (x y : Nat) (b : Bool) : List Bool := l.take x ++ List.replicate y b ++ l.drop (x + y)
theorem x0T {l : List Bool} {x y : Nat} (h : x + y <= l.length) (b : Bool) : (setR l x y b).length = l.length := by simp [setR]; omega
theorem x13 {l : List Bool} {x y : Nat} (h : x + y <= l.length) (b : Bool) (j : Nat) : (setR l x y b)[j]? = if x <= j /\ j < x + y then some b else l[j]? := by
 have h1 : (l.take x).length = x := by simp; omega
 rw [setR, List.append_assoc, List.getElem?_append, h1]
 by_cases ha : j < x
 ·rw [if_pos ha, if_neg (by omega), List.getElem?_take, if_pos ha]
 ·rw [if_neg ha, List.getElem?_append, List.length_replicate]
  by_cases hb : j - x < y
  ·rw [if_pos hb, if_pos (by omega), List.getElem?_replicate, if_pos hb]
  ·rw [if_neg hb, if_neg (by omega), List.getElem?_drop]; congr 1; omega
theorem xJB (l : List Bool) (x : Nat) (b : Bool) : setR l x 0 b = l := by simp [setR]
theorem xJM {l : List Bool} {x y : Nat} (h : x + y < l.length) (b : Bool) : (setR l x y b).set (x + y) b = setR l x (y + 1) b := by
 apply List.ext_getElem?
 intro j
 rw [List.getElem?_set, x13 (by omega), x13 (by omega), x0T (by omega)]
 by_cases hj : x + y = j
 ·subst hj; rw [if_pos rfl, if_pos h, if_pos (by omega)]
 ·rw [if_neg hj]
  by_cases hk : x <= j /\ j < x + y
  ·rw [if_pos hk, if_pos (by omega)]
  ·rw [if_neg hk, if_neg (by omega)]
def AllR (l : List Bool) (x y : Nat) (b : Bool) : Prop := x + y <= l.length /\ ∀ j, x <= j -> j < x + y -> l[j]? = some b
theorem AllR.same {l : List Bool} {x y : Nat} {b : Bool} (h : AllR l x y b) : l = setR l x y b := by
 apply List.ext_getElem?
 intro j
 rw [x13 h.1]
 by_cases hk : x <= j /\ j < x + y
 ·rw [if_pos hk, h.2 j hk.1 hk.2]
 ·rw [if_neg hk]
theorem xJA {l : List Bool} {x y : Nat} (h : x + y <= l.length) (b c : Bool) : setR (setR l x y b) x y c = setR l x y c := by
 apply List.ext_getElem?
 intro j
 rw [x13 (by rw [x0T h]; exact h), x13 h, x13 h]
 by_cases hk : x <= j /\ j < x + y
 ·rw [if_pos hk, if_pos hk]
 ·rw [if_neg hk, if_neg hk, if_neg hk]
def cnt (l : List Bool) : Nat := l.countP id
theorem x6J (l : List Bool) : cnt l <= l.length := List.countP_le_length
theorem xDS {l : List Bool} {x y : Nat} (h : x + y <= l.length) (b : Bool) : cnt (setR l x y b) = cnt (l.take x) + (if b then y else 0) + cnt (l.drop (x + y)) := by
 have : ∀ n : Nat, cnt (List.replicate n b) = if b then n else 0 := by
  intro n
  cases b <;> simp [cnt, List.countP_replicate]
 simp only [setR, cnt, List.countP_append] at this ⊢
 rw [this]
theorem xDQ {l : List Bool} {x y : Nat} {b : Bool} (h : AllR l x y (!b)) : (cnt (setR l x y b) : Int) = cnt l + (if b then (y : Int) else -(y : Int)) := by
 have h1 := xDS h.1 b
 have h2 := xDS h.1 (!b)
 rw [<- h.same] at h2
 cases b <;> simp at h1 h2 ⊢ <;> omega
theorem x7S (l : List Bool) : ∀ i x y, (x, y) ∈ hol i l -> i <= x /\ 1 <= y /\ x + y <= i + l.length /\ ∀ j, x <= j -> j < x + y -> l[j - i]? = some true := by
 refine x7K (P := fun l => ∀ i x y, (x, y) ∈ hol i l -> i <= x /\ 1 <= y /\ x + y <= i + l.length /\ ∀ j, x <= j -> j < x + y -> l[j - i]? = some true) ?_ ?_ ?_ ?_ l
 ·intro i x y h; simp [hol] at h
 ·intro l ih i x y h
  rw [hol] at h
  obtain ⟨h1, h2, h3, h4⟩ := ih _ _ _ h
  refine ⟨by omega, h2, by simp; omega, fun j hj hk => ?_⟩
  have := h4 j hj hk
  rw [show j - i = (j - (i + 1)) + 1 by omega, List.getElem?_cons_succ]
  exact this
 ·intro n i x y h
  rw [x7N] at h
  simp at h
  obtain ⟨rfl, rfl⟩ := h
  refine ⟨by omega, by omega, by simp, fun j hj hk => ?_⟩
  rw [List.getElem?_replicate, if_pos (by omega)]
 ·intro n l ih i x y h
  rw [x7H] at h
  simp only [List.mem_cons, Prod.mk.injEq] at h
  rcases h with ⟨rfl, rfl⟩ | h
  ·refine ⟨by omega, by omega, by simp, fun j hj hk => ?_⟩
   rw [List.getElem?_append_left (by simp; omega), List.getElem?_replicate, if_pos (by omega)]
  ·obtain ⟨h1, h2, h3, h4⟩ := ih _ _ _ h
   refine ⟨by omega, h2, by simp; omega, fun j hj hk => ?_⟩
   rw [List.getElem?_append_right (by simp; omega), List.length_replicate, show j - i - (n + 1) = (j - (i + n + 2)) + 1 by omega, List.getElem?_cons_succ]
   exact h4 j hj hk
theorem xJJ (l : List Bool) : ∀ i, (hol i l).Pairwise (fun p q => p.1 + p.2 < q.1) := by
 refine x7K (P := fun l => ∀ i, (hol i l).Pairwise (fun p q => p.1 + p.2 < q.1)) ?_ ?_ ?_ ?_ l
 ·intro i; simp [hol]
 ·intro l ih i; rw [hol]; exact ih _
 ·intro n i; rw [x7N]; simp
 ·intro n l ih i
  rw [x7H]
  refine List.pairwise_cons.2 ⟨fun q hq => ?_, ih _⟩
  obtain ⟨a, b⟩ := q
  have := (x7S l _ _ _ hq).1
  simp; omega
def lens (L : List (Nat × Nat)) : Nat := (L.map (·.2)).sum
theorem xCW (l : List Bool) : ∀ i, lens (hol i l) = cnt l := by
 refine x7K (P := fun l => ∀ i, lens (hol i l) = cnt l) ?_ ?_ ?_ ?_ l
 ·intro i; rfl
 ·intro l ih i; rw [hol, ih]; simp [cnt]
 ·intro n i; rw [x7N]; simp [lens, cnt, List.countP_replicate]
 ·intro n l ih i
  rw [x7H]
  have := ih (i + n + 2)
  simp only [lens, cnt, List.map_cons, List.sum_cons, List.countP_append, List.countP_replicate, List.countP_cons] at this ⊢
  simp only [id] at this ⊢
  rw [this]
  simp
end
end Go.Proofs.YtajajlbeiikcmaaGreatDoor
