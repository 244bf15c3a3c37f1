/-
 A store's object is put. Conditions: the store lies where it is said to; the text is not too long.
-/
import Derived.Test.YtajajlbeiikcmaaGreatDoorZh
import Derived.WideShapes
namespace Go.Proofs.YtajajlbeiikcmaaGreatDoor
set_option linter.unusedSimpArgs false
set_option linter.unusedVariables false
set_option maxRecDepth 100000
section
open Go.RowKit Go.BigFrame
def sttxB (bs : List Nat) : List Nat := numB bs.length ++ bs
theorem x1B (bs : List Nat) : (sttxB bs).length = 8 + bs.length := by simp [sttxB, x04]
def putA (q : Key × List Nat) : List Nat := sttxB (keyL q.1) ++ sttxB q.2
def putE (e : Nat × Nat) : List Nat := numB e.1 ++ numB e.2
def putO (nm : List Nat) (o : Ob) : List Nat := sttxB nm ++ (sttxB o.d ++ (numB o.a.length ++ ((atL o.a (srt (o.a.map (·.1)))).flatMap putA ++ (numB o.e.length ++ o.e.flatMap putE))))
theorem xOO (a : AL) (l : List Key) : (atL a l).length = l.length := List.length_map _
theorem xIW (k : Key) : keyV k = .string (strOf (keyL k)) := xNA k
theorem x9K (k : Key) : ∀ b ∈ keyL k, b < 256 := fun b hb => by
 obtain ⟨x, _, rfl⟩ := List.mem_map.1 hb
 exact x.toNat_lt
theorem WTo.bel {w0 w w' : World} {F : List Nat} {p : Option Addr} {bs bs' : List Nat} (hb : Below w0.heap.size w0 w) (hw : Wr w w0.heap.size F p bs) (h : WTo w w0.heap.size F p bs' w') : Below w0.heap.size w0 w' := by
 obtain ⟨F', _, ho, _⟩ := h
 exact hb.trans (ho.below hw.over hb.size)
theorem x8G (w : World) (p : Addr) (s : Key × Value) (hc : ∀ j v, (atC s)[j]? = some v -> w.cell? (p.add j) = some v) : (loadVar 196 p).run Tryz.prog w = .ok (.agg (atC s).toArray) w := by
 have hl : (loadCells p 2).run Tryz.prog w = .ok (atC s).toArray w := run_loadCells_list (P := Tryz.prog) w p (atC s) hc
 have hagg : (isAgg 196).run Tryz.prog w = .ok true w := by
  unfold isAgg
  rw [Sem.run_bind, run_underlying Tryz.underlying196 w]
  rfl
 have hi : (Tryz.prog.info? 196).map (·.size) = some 2 := by kernel_rfl
 cases hq : Tryz.prog.info? 196 with
 | none => simp [hq] at hi
 | some i =>
  have hs : i.size = 2 := by simpa [hq] using hi
  simp [loadVar, Sem.run_bind, hagg, sizeOf, typeInfo, hq, hs, hl]
theorem x8T {ops : Array Oper} {rest : List Oper} {op : Oper} {a : Act} {w : World} {Q : Exit -> Act -> World -> Prop} (hgd : op.guard = none) (x : Operand) (ho : op.op = .load 196 x)
  (p : Addr) (hx : a.eval x = .pointer (some p)) (nm : List Nat) (u : Value) (hc0 : w.cell? p = some (.string (strOf nm))) (hc1 : w.cell? (p.add 1) = some u)
  (h : wpList Tryz.prog ops Q rest (a.put op.dst (.agg #[.string (strOf nm), u])) w) : wpList Tryz.prog ops Q (op :: rest) a w :=
 wpList_plain hgd fun _ hK => by
  have hl := x8G w p (keyB nm, u) (fun j v hj => by
   unfold atC at hj
   rw [x16] at hj
   match j, hj with
   | 0, hj => simp at hj; subst hj; simpa [Addr.add] using hc0
   | 1, hj => simp at hj; subst hj; exact hc1
   | j + 2, hj => simp at hj)
  have e : (atC (keyB nm, u)).toArray = #[.string (strOf nm), u] := by unfold atC; rw [x16]
  rw [e] at hl
  unfold Oper.wp execOp
  simp only [ho, hx, Instr.loadAt, Instr.sureAddr, Sem.run_bind, Sem.run_pure, Result.andThen_ok, hl]
  exact hK _ _ h
theorem xPI {W : World} {B c n : Nat} {A : Option Addr} {l : List (Key × Value)} (h : W.ownsRow B 196 2 (.slice A n c) n (l.flatMap atC)) {k : Nat} {p : Key × Value} (hk : l[k]? = some p) (hn : k < n) : ∃ ad, A = some ad /\ ad.block < W.heap.size /\ W.cell? (ad.add (k * 2)) = some (keyV p.1) /\ W.cell? ((ad.add (k * 2)).add 1) = some p.2 := by
 obtain ⟨ad, e, hb, hc⟩ := (Reads.of_own h).2 (by omega)
 have c0 := hc (k * 2 + 0) (keyV p.1) (by rw [x2I atC 2 xFG l k 0 p hk (by omega)]; rfl)
 have c1 := hc (k * 2 + 1) p.2 (by rw [x2I atC 2 xFG l k 1 p hk (by omega)]; rfl)
 exact ⟨ad, e, hb, c0, by rw [x2H]; exact c1⟩
theorem xOI {W : World} {B c : Nat} {E : Option Addr} {es : List (Nat × Nat)} (h : OwnE W B (.slice E es.length c) (natE es)) {p : Nat} {e : Nat × Nat} (hp : es[p]? = some e) : ∃ ad, E = some ad /\ ad.block < W.heap.size /\ W.cell? (ad.add (p * 2)) = some (.int .i64 (e.1 : Int)) /\ W.cell? ((ad.add (p * 2)).add 1) = some (.int .i64 (e.2 : Int)) := by
 have hl := (List.getElem?_eq_some_iff.1 hp).1
 have hE : ExtR W W.heap.size E (natE es) := OwnE.ext (by rw [x0R]; exact h)
 obtain ⟨ad, q, e1, hb, he, c0, c1⟩ := hE.get (k := p) (by rw [x0R]; exact hl)
 simp only [natE, List.getElem?_map, hp, Option.map_some] at he
 injection he with he
 subst he
 exact ⟨ad, e1, hb, c0, c1⟩
set_option maxHeartbeats 16000000 in
theorem xP4 {w0 w : World} {Z : List Nat} {gs ms gp r c : Nat} {A : Option Addr} {M : Mod} {kv : KV} (h0 : StoreAt w0 Z gs ms gp r c A M kv) (hb : Below w0.heap.size w0 w) {F : List Nat} {g : Nat} {bs : List Nat} (hw : Wr w w0.heap.size F (some ⟨g, 0, none⟩) bs)
  (nm : List Nat) (hsm : Small nm) (hnl : nm.length <= 1000) {o : Ob} (hg : gget M.ob (keyB nm) = some o) (hd : o.d.length <= 65536) (ha : o.a.length <= 1000000) (he : o.e.length <= 1000000) (hv : ∀ q ∈ o.a, q.2.length <= 65536) (hlen : bs.length + (putO nm o).length <= 4000000) :
  Calls Tryz.prog 59 #[.pointer (some ⟨gs, 0, none⟩), .pointer (some ⟨g, 0, none⟩), .string (strOf nm)] w fun e w' => e = .returned (.tuple #[]) /\ WTo w w0.heap.size F (some ⟨g, 0, none⟩) (bs ++ putO nm o) w' := by
 rcases h0.obs.get ObjR.key (keyB nm) with ⟨_, h2⟩ | ⟨v, u, h1, h2, -, go, mb, c1, ce, D, E, kv1, e, -, hat⟩
 ·rw [hg] at h2; cases h2
 have hg' := hg
 rw [hg] at h2
 injection h2 with h2
 subst h2
 have hvv : aget kv (keyB nm) = some (.pointer (some ⟨go, 0, none⟩)) := by rw [h1]; exact congrArg some e
 have q0 : w.cell? ⟨gs, 0, none⟩ = some (.map (some ms)) := (h0.st.below hb).c0
 have hz : (zeroValue 147).run Tryz.prog w = .ok (.pointer none) w := by kernel_rfl
 have hlk := x34 (P := Tryz.prog) (t := 118) (et := 147) Tryz.underlying9 Tryz.underlying118 hz (h0.st.below hb).map (keyB nm) (by simp [keyB, maxLen]; omega)
 rw [x16, hvv, Option.getD_some] at hlk
 unfold putO at hlen ⊢
 simp only [List.length_append, x1B, x04] at hlen
 have HLEN := kH hlen
 have H0 := kH (kA h0 hg')
 have HA := kH hat
 have HV := kH hv
 have HC : Hid (∀ w', Below w0.heap.size w0 w' -> w'.cell? ⟨go, 0, none⟩ = some (.slice D o.d.length c1) /\ w'.cell? ⟨go, 1, none⟩ = some (.map (some mb)) /\ w'.cell? ⟨go, 2, none⟩ = some (.slice E o.e.length ce)) := kH fun w' h => ⟨(hat.below h).blk.cell 0, (hat.below h).blk.cell 1, (hat.below h).blk.cell 2⟩
 have HML : Hid (∀ w', Below w0.heap.size w0 w' -> ∀ (t : TypeId), True) := kH fun _ _ _ => trivial
 have HT1 := kH (x6B w w0.heap.size F (some ⟨g, 0, none⟩) bs nm hw hsm (by omega) hb.size)
 have HB := kH (kA hb hw)
 clear h0 hg hg' hat h1 e hvv hv hb hw hlen
 go_enter Tryz.func59, Tryz.ntmps59
 go_wp2_with fail
 refine HT1.out.mono ?_
 rintro e w1 ⟨rfl, hw1⟩
 have hb1 := WTo.bel HB.out.1 HB.out.2 hw1
 obtain ⟨F1, hW1, ho1, hf1⟩ := hw1
 obtain ⟨t1, ht1⟩ : ∃ t1, t1 = bs ++ sttxB nm := ⟨_, rfl⟩
 have hW1' : Wr w1 w0.heap.size F1 (some ⟨g, 0, none⟩) t1 := by rw [ht1]; exact hW1
 have hl1 : t1.length = bs.length + (8 + nm.length) := by rw [ht1, List.length_append, x1B]
 obtain ⟨c0, c1', c2'⟩ := HC.out w1 hb1
 have HT2 := kH (x62 w1 w0.heap.size F1 (some ⟨g, 0, none⟩) t1 o.d w0.heap.size D o.d.length c1 hW1' ((HA.out.bytes).since hb1) (fun a ea h0' hm => by
  obtain ⟨ad, ea', hab, _⟩ := HA.out.bytes.1.2 (by omega)
  rw [ea'] at ea
  injection ea with ea
  subst ea
  have := hW1'.over _ hm
  omega) (by have := HLEN.out; omega) hb1.size)
 have HT1E := kH ht1
 have H1 := kH (kA ho1 (kA hf1 (kA hb1 (kA hW1' (kA ht1 hl1)))))
 clear ho1 hf1 hb1 hW1 hW1' ht1 hl1 HT1 hlk q0
 go_wp2_with fail
 refine HT2.out.mono ?_
 rintro e w2 ⟨rfl, hw2⟩
 have hb2 := WTo.bel H1.out.2.2.1 H1.out.2.2.2.1 hw2
 have hw2' := WTo.after H1.out.1 H1.out.2.1 hw2
 obtain ⟨F2, hW2, ho2, hf2⟩ := hw2'
 obtain ⟨t2, ht2⟩ : ∃ t2, t2 = t1 ++ sttxB o.d := ⟨_, rfl⟩
 have hW2' : Wr w2 w0.heap.size F2 (some ⟨g, 0, none⟩) t2 := by rw [ht2]; exact hW2
 have hl2 : t2.length = bs.length + (8 + nm.length) + (8 + o.d.length) := by rw [ht2, List.length_append, x1B, H1.out.2.2.2.2.2]
 obtain ⟨c0, c1', c2'⟩ := HC.out w2 hb2
 have HM : Hid (∀ w', Below w0.heap.size w0 w' -> SMap Tryz.prog 9 w' mb kv1) := kH fun w' h => (HA.out.below h).map
 have hmap2 := HM.out w2 hb2
 have hkl : kv1.length = o.a.length := HA.out.att.len
 have hml : ∀ ty, (Builtin.len_ #[134] ty #[.map (some mb)]).run Tryz.prog w2 = .ok (.int .i64 o.a.length) w2 := fun ty => by
  have := World.ownsMap.len hmap2.owns (t := 134) Tryz.underlying134 ty
  rw [x3C, hkl] at this
  exact this
 have HT3 := kH (x1C w2 w0.heap.size F2 (some ⟨g, 0, none⟩) t2 o.a.length hW2' (by have := HLEN.out; omega) hb2.size)
 have H2 := kH (kA ho2 (kA hf2 (kA hb2 (kA hW2' (kA ht2 hl2)))))
 clear ho2 hf2 hb2 hW2 hW2' ht2 hl2 HT2 hw2 hmap2 hkl H1
 go_wp2_with fail
 refine HT3.out.mono ?_
 rintro e w3 ⟨rfl, hw3⟩
 have hw3' := WTo.after H2.out.1 H2.out.2.1 hw3
 have hb3 := WTo.bel HB.out.1 HB.out.2 hw3'
 have HX := kH ((H0.out.1.below hb3).attrs2 nm (by omega) H0.out.2 ha HV.out)
 have HB3 := kH (kA hb3 hw3')
 clear hw3 hw3' hb3 HT3
 go_wp2_with fail
 refine HX.out.mono ?_
 rintro e w4 ⟨AL, cL, l, rfl, hrow, hrl, hb34⟩
 obtain ⟨t3, ht3⟩ : ∃ t3, t3 = t2 ++ numB o.a.length := ⟨_, rfl⟩
 have hl3 : t3.length = bs.length + (8 + nm.length) + (8 + o.d.length) + 8 := by rw [ht3, List.length_append, x04, H2.out.2.2.2.2.2]
 obtain ⟨F3, hW3, ho3, hf3⟩ := HB3.out.2
 have hu3 := hW3.under
 have hW4 : Wr w4 w0.heap.size F3 (some ⟨g, 0, none⟩) t3 := by rw [ht3]; exact hW3.below hb34
 have ho4 : Only F w w4 := ho3.trans (Only.of_below hb34 F3) hf3
 obtain ⟨L, hL⟩ : ∃ L, L = atL o.a (srt (o.a.map (·.1))) := ⟨_, rfl⟩
 rw [<- hL] at hrl
 have hLl : L.length = o.a.length := by rw [hL, xOO, xOT, List.length_map]
 have hll : l.length = o.a.length := by rw [hrl.len, hLl]
 have hlT : t3.length + (L.flatMap putA).length + 8 + (o.e.flatMap putE).length <= 4000000 := by
  have := HLEN.out
  rw [<- hL] at this
  omega
 have hs34 := hb34.size
 have hs04 : w0.heap.size <= w3.heap.size := HB3.out.1.size
 have H4 := kH (kA hW4 (kA ho4 (kA hf3 (kA hu3 (kA hrow (kA hrl (kA ht3 hL)))))))
 have HLT := kH (kA hlT (kA hLl hll))
 clear hrow hrl hb34 ht3 hl3 hW3 ho3 hf3 hu3 hW4 ho4 hL hLl hll hlT HX
 go_wp2_with fail
 go_loopw [37] (fun iv wr => ∃ k : Nat, k <= o.a.length /\ iv = .int .i64 k /\ WTo w4 w0.heap.size F3 (some ⟨g, 0, none⟩) (t3 ++ (L.take k).flatMap putA) wr) (fun iv _ => o.a.length - (intS iv).toNat)
 case atStart => exact ⟨0, by omega, rfl, F3, by simpa using H4.out.1, Only.refl _ _, Fresh.refl _ _⟩
 case round =>
  obtain ⟨k, hk, rfl, F', hW', ho', hf'⟩ := hrel
  obtain ⟨wq, hwq⟩ : ∃ wq, wq = wr := ⟨_, rfl⟩
  subst hwq
  have hwk : IntKind.i64.wrap ((k : Int) + 1) = (k : Int) + 1 := by rw [IntKind.wrap_i64]; omega
  have hs4q := ho'.size
  by_cases hlt : k < o.a.length
  -- {A
  ·obtain ⟨p, hp⟩ : ∃ p, l[k]? = some p := ⟨_, List.getElem?_eq_getElem (by rw [HLT.out.2.2]; exact hlt)⟩
   obtain ⟨q, hq, hpq, Av, cv, hpv, hov, hsv, -⟩ := H4.out.2.2.2.2.2.1.at_ hp
   obtain ⟨hft, post, hfp⟩ := x6T putA hq
   have hover := x0I H4.out.2.2.2.2.1
   have hrowq := x12 H4.out.2.2.2.2.1 ho' (fun j hj hm => by have := hover j hj; have := H4.out.2.2.2.1 j hm; omega)
   obtain ⟨ad, rfl, hab, hc0, hc1⟩ := xPI hrowq hp hlt
   rw [hpq, xIW] at hc0
   rw [hpv] at hc1 hov
   have hlen2 : (t3 ++ (L.take k).flatMap putA).length + (8 + (keyL q.1).length) + (8 + q.2.length) <= 4000000 := by
    have h1 := HLT.out.1
    rw [hfp] at h1
    simp only [List.length_append, putA, x1B] at h1 ⊢
    omega
   have hovq := x12 hov ho' (fun j hj hm => by have := x0I hov j hj; have := H4.out.2.2.2.1 j hm; omega)
   have hsep : ∀ j ∈ rowOf (.slice Av q.2.length cv), j ∉ F' := fun j hj hm => by
    have h1 := x0I hov j hj
    have h2 := x02 hov j hj
    rcases hf' j hm with h3 | h3
    ·have := H4.out.2.2.2.1 j h3; omega
    ·omega
   obtain ⟨nq, hnq⟩ : ∃ nq, nq = keyL q.1 := ⟨_, rfl⟩
   rw [<- hnq] at hc0 hlen2
   have hnqs : Small nq := by rw [hnq]; exact x9K _
   obtain ⟨tk, htk⟩ : ∃ tk, tk = t3 ++ (L.take k).flatMap putA := ⟨_, rfl⟩
   rw [<- htk] at hlen2 hW'
   obtain ⟨wB, hwB⟩ : ∃ wB, wB = wq.alloc (.cells #[.string (strOf nq), .slice Av q.2.length cv] 196) := ⟨_, rfl⟩
   obtain ⟨gB, hgB⟩ : ∃ gB, gB = wq.heap.size := ⟨_, rfl⟩
   have hbB : Below wq.heap.size wq wB := by rw [hwB]; exact x06 _ _
   have KB : Blk wB gB 196 #[.string (strOf nq), .slice Av q.2.length cv] := by rw [hwB, hgB]; exact Blk.new _ _ _
   have hsB := hbB.size
   have hgBF : gB ∉ F' := fun hm => by have := hW'.under _ hm; omega
   have HT4 := kH (x6B wB w0.heap.size F' (some ⟨g, 0, none⟩) tk nq (hW'.below hbB) hnqs (by omega) (by omega))
   have k0 : wB.cell? ⟨gB, 0, none⟩ = some (.string (strOf nq)) := KB.cell 0
   have hgl := KB.lt
   have HWB := kH hwB
   have HGB := kH hgB
   have HQ := kH (kA hW' (kA ho' (kA hf' (kA hbB (kA KB (kA hgBF (kA hovq (kA hsep (kA hsv (kA hft (kA hnq (kA htk hlen2))))))))))))
   have HROW := kH (kA hov hs4q)
   clear hp hq hpq hpv hov hsv hft hfp hover hrowq hovq hsep hlen2 hW' ho' hf' hbB KB hgBF hnqs hwB hgB hnq htk
   go_wp2_with (have _h := hc0; refine x8T rfl (.tmp 39) rfl _ rfl nq _ hc0 hc1 ?_; clear _h hc0 hc1)
   rw [<- HWB.out, <- HGB.out]
   refine HT4.out.mono ?_
   rintro e w5 ⟨rfl, F5, hW5, ho5, hf5⟩
   have hW5' : Wr w5 w0.heap.size F5 (some ⟨g, 0, none⟩) (tk ++ sttxB nq) := hW5
   have k1 : w5.cell? ⟨gB, 1, none⟩ = some (.slice Av q.2.length cv) := (HQ.out.2.2.2.2.1.of (ho5.block _ hgl HQ.out.2.2.2.2.2.1)).cell 1
   have hov5 := x12 (x05 HQ.out.2.2.2.2.2.2.1 fun j hj => HQ.out.2.2.2.1.block j (x02 HQ.out.2.2.2.2.2.2.1 j hj)) ho5 HQ.out.2.2.2.2.2.2.2.1
   have hs5 := ho5.size
   have hgl5 : gB < w5.heap.size := by omega
   have HT5 := kH (x62 w5 w0.heap.size F5 (some ⟨g, 0, none⟩) (tk ++ sttxB nq) q.2 w5.heap.size Av q.2.length cv hW5' (Own.bytes hov5 HQ.out.2.2.2.2.2.2.2.2.1) (fun a ea h0' hm => by
    have hj : a.block ∈ rowOf (.slice Av q.2.length cv) := x00.2 (by rw [ea]; rfl)
    rcases hf5 _ hm with h3 | h3
    ·exact HQ.out.2.2.2.2.2.2.2.1 _ hj h3
    ·have := x02 HROW.out.1 _ hj; omega) (by rw [List.length_append, x1B]; have := HQ.out.2.2.2.2.2.2.2.2.2.2.2.2; omega) (by omega))
   have H5 := kH (kA ho5 hf5)
   clear hW5 hW5' hov5 HT4 ho5 hf5 k0
   go_wp2_with fail
   refine HT5.out.mono ?_
   rintro e w6 ⟨rfl, hw6⟩
   have hfin := WTo.after HQ.out.2.1 HQ.out.2.2.1 (WTo.since HQ.out.2.2.2.1 (WTo.after H5.out.1 H5.out.2 hw6))
   have htx : plus (some ⟨g, 0, none⟩) (tk ++ sttxB nq) (numB q.2.length ++ q.2) = t3 ++ (L.take (k + 1)).flatMap putA := by
    rw [HQ.out.2.2.2.2.2.2.2.2.2.1, HQ.out.2.2.2.2.2.2.2.2.2.2.2.1]
    show t3 ++ (L.take k).flatMap putA ++ sttxB nq ++ sttxB q.2 = _
    rw [HQ.out.2.2.2.2.2.2.2.2.2.2.1]
    simp [putA]
   rw [htx] at hfin
   have HFIN := kH hfin
   clear hfin htx hw6 HT5
   go_wp2_with fail
   go_roundw
   case rel => exact ⟨k + 1, by omega, by go_num, HFIN.out⟩
   case measure => simp [intS]; omega
  -- A}
  ·obtain rfl : k = o.a.length := by omega
   have hwq := WTo.after H4.out.2.1 H4.out.2.2.1 ⟨F', hW', ho', hf'⟩
   rw [List.take_of_length_le (by rw [HLT.out.2.1]; omega)] at hwq
   clear hW' ho' hf'
   have hbq := WTo.bel HB.out.1 HB.out.2 hwq
   obtain ⟨c0, c1', c2'⟩ := HC.out wq hbq
   obtain ⟨F6, hW6, ho6, hf6⟩ := hwq
   obtain ⟨t6, ht6⟩ : ∃ t6, t6 = t3 ++ L.flatMap putA := ⟨_, rfl⟩
   rw [<- ht6] at hW6
   have hl6 : t6.length + 8 + (o.e.flatMap putE).length <= 4000000 := by rw [ht6, List.length_append]; have := HLT.out.1; omega
   have HT6 := kH (x1C wq w0.heap.size F6 (some ⟨g, 0, none⟩) t6 o.e.length hW6 (by omega) hbq.size)
   have H6 := kH (kA ho6 (kA hf6 (kA hbq (kA hW6 ht6))))
   clear ho6 hf6 hbq hW6 ht6
   go_wp2_with fail
   refine HT6.out.mono ?_
   rintro e w7 ⟨rfl, hw7⟩
   obtain ⟨t7, ht7⟩ : ∃ t7, t7 = t6 ++ numB o.e.length := ⟨_, rfl⟩
   have hw7' : WTo w w0.heap.size F (some ⟨g, 0, none⟩) t7 w7 := by rw [ht7]; exact WTo.after H6.out.1 H6.out.2.1 hw7
   have hl7 : t7.length + (o.e.flatMap putE).length <= 4000000 := by rw [ht7, List.length_append, x04]; omega
   have hb7 := WTo.bel HB.out.1 HB.out.2 hw7'
   obtain ⟨c0, c1', c2''⟩ := HC.out w7 hb7
   have HW7 := kH (kA hw7' (kA hb7 ht7))
   clear hw7 hw7' ht7 hb7 HT6 c0 c1'
   go_wp2_with fail
   go_loopw [62] (fun iv wr => ∃ k : Nat, k <= o.e.length /\ iv = .int .i64 k /\ WTo w w0.heap.size F (some ⟨g, 0, none⟩) (t7 ++ (o.e.take k).flatMap putE) wr) (fun iv _ => o.e.length - (intS iv).toNat)
   case atStart => exact ⟨0, by omega, rfl, by simpa using HW7.out.1⟩
   case round =>
    obtain ⟨k, hk, rfl, hwt⟩ := hrel
    obtain ⟨wq, hwq⟩ : ∃ wq, wq = wr := ⟨_, rfl⟩
    subst hwq
    have hwk : IntKind.i64.wrap ((k : Int) + 1) = (k : Int) + 1 := by rw [IntKind.wrap_i64]; omega
    by_cases hlt : k < o.e.length
    -- {E
    ·obtain ⟨ex, ey, hpe⟩ : ∃ ex ey, o.e[k]? = some (ex, ey) := ⟨_, _, List.getElem?_eq_getElem hlt⟩
     obtain ⟨hft, post, hfp⟩ := x6T putE hpe
     have hbq := WTo.bel HB.out.1 HB.out.2 hwt
     obtain ⟨ad3, rfl, hab3, a0, a1⟩ := xOI (HA.out.below hbq).ext hpe
     obtain ⟨F7, hW7, ho7, hf7⟩ := hwt
     obtain ⟨tk, htk⟩ : ∃ tk, tk = t7 ++ (o.e.take k).flatMap putE := ⟨_, rfl⟩
     rw [<- htk] at hW7
     have hlk : tk.length + 16 <= 4000000 := by
      have h1 := hl7
      rw [hfp] at h1
      rw [htk]
      simp only [List.length_append, putE, x04] at h1 ⊢
      omega
     obtain ⟨wB, hwB⟩ : ∃ wB, wB = wq.alloc (.cells #[.int .i64 (ex : Int), .int .i64 (ey : Int)] 198) := ⟨_, rfl⟩
     obtain ⟨gB, hgB⟩ : ∃ gB, gB = wq.heap.size := ⟨_, rfl⟩
     have hbB : Below wq.heap.size wq wB := by rw [hwB]; exact x06 _ _
     have KB : Blk wB gB 198 #[.int .i64 (ex : Int), .int .i64 (ey : Int)] := by rw [hwB, hgB]; exact Blk.new _ _ _
     have hgBF : gB ∉ F7 := fun hm => by have := hW7.under _ hm; omega
     have hsq := hbq.size
     have hsB := hbB.size
     have HT8 := kH (x1C wB w0.heap.size F7 (some ⟨g, 0, none⟩) tk ex (hW7.below hbB) (by omega) (by omega))
     have k0 : wB.cell? ⟨gB, 0, none⟩ = some (.int .i64 (ex : Int)) := KB.cell 0
     have hgl := KB.lt
     have HWB := kH hwB
     have HGB := kH hgB
     have HQ := kH (kA ho7 (kA hf7 (kA hbB (kA KB (kA hgBF (kA hft htk))))))
     clear hpe hft hfp hbq hW7 ho7 hf7 hbB KB hgBF hwB hgB htk
     go_wp2_with (have _h := a0; refine x26 rfl (.tmp 64) rfl _ rfl (((ex : Int), (ey : Int))) a0 a1 ?_; clear _h a0 a1)
     rw [<- HWB.out, <- HGB.out]
     refine HT8.out.mono ?_
     rintro e w8 ⟨rfl, F8, hW8, ho8, hf8⟩
     have hW8' : Wr w8 w0.heap.size F8 (some ⟨g, 0, none⟩) (tk ++ numB ex) := hW8
     have k1 : w8.cell? ⟨gB, 1, none⟩ = some (.int .i64 (ey : Int)) := (HQ.out.2.2.2.1.of (ho8.block _ hgl HQ.out.2.2.2.2.1)).cell 1
     have hs8 := ho8.size
     have hgl8 : gB < w8.heap.size := by omega
     have HT9 := kH (x1C w8 w0.heap.size F8 (some ⟨g, 0, none⟩) (tk ++ numB ex) ey hW8' (by rw [List.length_append, x04]; omega) (by omega))
     have H8 := kH (kA ho8 hf8)
     clear hW8 hW8' HT8 ho8 hf8 k0
     go_wp2_with fail
     refine HT9.out.mono ?_
     rintro e w9 ⟨rfl, hw9⟩
     have hfin := WTo.after HQ.out.1 HQ.out.2.1 (WTo.since HQ.out.2.2.1 (WTo.after H8.out.1 H8.out.2 hw9))
     have htx : plus (some ⟨g, 0, none⟩) (tk ++ numB ex) (numB ey) = t7 ++ (o.e.take (k + 1)).flatMap putE := by
      rw [HQ.out.2.2.2.2.2.1, HQ.out.2.2.2.2.2.2]
      show t7 ++ (o.e.take k).flatMap putE ++ numB ex ++ numB ey = _
      simp [putE]
     rw [htx] at hfin
     have HFIN := kH hfin
     clear hfin htx hw9 HT9
     go_wp2_with fail
     go_roundw
     case rel => exact ⟨k + 1, by omega, by go_num, HFIN.out⟩
     case measure => simp [intS]; omega
    -- E}
    ·obtain rfl : k = o.e.length := by omega
     rw [List.take_length] at hwt
     have HFIN := kH hwt
     clear hwt
     go_wp2
     refine bodyPost_end (results_none rfl _ _ _) rfl ?_
     refine ⟨rfl, ?_⟩
     have h1 := HFIN.out
     rw [HW7.out.2.2, H6.out.2.2.2.2, H4.out.2.2.2.2.2.2.1, H2.out.2.2.2.2.1, HT1E.out, H4.out.2.2.2.2.2.2.2] at h1
     simpa [sttxB] using h1
end
section
open Go.RowKit Go.BigFrame
def flB (bl : List Bool) : List Nat := bl.map fun f => if f then 1 else 0
def putK (M : Mod) (k : Key) : List Nat := match gget M.ob k with | some o => putO (keyL k) o | none => []
def putM (M : Mod) : List Nat := numB M.fl.length ++ (flB M.bl ++ (numB M.ob.length ++ (srt (M.ob.map (·.1))).flatMap (putK M)))
theorem x9V {P : Program} (t e : TypeId) (cs : List Value) (j : Nat) (v : Value) (h : P.underlying t = some (.array 8 e)) (hi : (P.info? e).map (·.size) = some 1) (ha : ∀ w, (isAgg e).run P w = .ok false w) (hj : j < 8) (hv : cs[j]? = some v) (w : World) :
  (Instr.index t (.agg cs.toArray) (.int .i64 j)).run P w = .ok v w := by
 cases hq : P.info? e with
 | none => simp [hq] at hi
 | some i =>
  simp [hq] at hi
  have h6 : (j : Int) < 8 := by omega
  simp [Instr.index, run_underlying h, asIntOf, h6, hj, ha, Result.andThen, sizeOf, typeInfo, hq, hi, hv, go_sem]
theorem x7W {ops : Array Oper} {rest : List Oper} {op : Oper} {a : Act} {w : World} {Q : Exit -> Act -> World -> Prop} (hgd : op.guard = none) (x : Operand) (ho : op.op = .load 119 x)
  (p : Addr) (hx : a.eval x = .pointer (some p)) (cs : List Value) (hl : cs.length = 8) (hc : ∀ j v, cs[j]? = some v -> w.cell? (p.add j) = some v)
  (h : wpList Tryz.prog ops Q rest (a.put op.dst (.agg cs.toArray)) w) : wpList Tryz.prog ops Q (op :: rest) a w :=
 wpList_plain hgd fun _ hK => by
  unfold Oper.wp execOp
  simp only [ho, hx, Instr.loadAt, Instr.sureAddr, Sem.run_bind, Sem.run_pure, Result.andThen_ok, x3I w p cs hl hc]
  exact hK _ _ h
theorem StAt.flags_at {w : World} {gs ms gp r c : Nat} {A : Option Addr} {bl fl : List Bool} {kv : KV} (h : StAt w gs ms gp r c A bl fl kv) : ∀ j v, (bl.map Value.bool)[j]? = some v -> w.cell? ((⟨gs, 1, none⟩ : Addr).add j) = some v := fun j v hj => by
 have e : (⟨gs, 1, none⟩ : Addr).add j = ⟨gs, 1 + j, none⟩ := by simp [Addr.add]
 rw [e]
 rw [List.getElem?_map] at hj
 cases hb : bl[j]? with
 | none => rw [hb] at hj; cases hj
 | some b =>
  rw [hb] at hj
  simp at hj
  subst hj
  exact h.cb hb
set_option maxHeartbeats 16000000 in
theorem xG0 {w : World} {Z : List Nat} {gs ms gp r c n : Nat} {A : Option Addr} {M : Mod} {kv : KV} (h : StoreAt w Z gs ms gp r c A M kv) (hI : InvP n M) (hn : n <= 1000000) (hlen : (putM M).length <= 3000000) :
  Calls Tryz.prog 16 #[.pointer (some ⟨gs, 0, none⟩)] w fun e w' => ∃ v, e = .returned v /\ Own w' w.heap.size v (putM M).length (putM M) /\ Below w.heap.size w w' /\ Small (putM M) := by
 have HL : Hid ((putM M).length = 8 + (M.bl.length + (8 + ((srt (M.ob.map (·.1))).flatMap (putK M)).length))) := kH (by unfold putM; simp only [List.length_append, x04, flB, List.length_map])
 have HH := kH (kA h (kA hI hlen))
 have hkl : kv.length = M.ob.length := h.obs.len
 have hfew := hI.few
 have HKV := kH hkl
 obtain ⟨g, hg⟩ : ∃ g, g = w.heap.size := ⟨_, rfl⟩
 obtain ⟨w1, hw1⟩ : ∃ w1, w1 = w.alloc (.cells #[.slice none 0 0] 117) := ⟨_, rfl⟩
 have hb1 : Below w.heap.size w w1 := by rw [hw1]; exact x06 _ _
 have K1 : Blk w1 g 117 #[.slice none 0 0] := by rw [hw1, hg]; exact Blk.new _ _ _
 have hW1 : Wr w1 w.heap.size [g] (some ⟨g, 0, none⟩) [] := .inr ⟨g, rfl, .slice none 0 0, by simp [rowOf, Value.ownBlock], K1, ⟨rfl, .inl ⟨rfl, rfl⟩⟩, by omega, fun b hb => by cases hb⟩
 have c9 := (h.st.below hb1).c9
 have HG := kH hg
 have HW1E := kH hw1
 have HS1 := kH (x41 (h.st.below hb1).sp.blk)
 have HN1 := kH (x1C w1 w.heap.size [g] (some ⟨g, 0, none⟩) [] M.fl.length hW1 (by simp) hb1.size)
 have H1 := kH (kA hb1 hW1)
 have hk1 := K1.lt
 clear h hI hlen hkl hg hw1 hb1 K1 hW1
 go_enter Tryz.func16, Tryz.ntmps16
 go_wp2_with (first | rw [<- HW1E.out, <- HG.out])
 refine HS1.out.mono ?_
 rintro e w' ⟨rfl, rfl⟩
 go_wp2_with fail
 refine HN1.out.mono ?_
 rintro e w2 ⟨rfl, hw2⟩
 obtain ⟨t2, ht2⟩ : ∃ t2, t2 = numB M.fl.length := ⟨_, rfl⟩
 have hw2' : WTo w1 w.heap.size [g] (some ⟨g, 0, none⟩) t2 w2 := by rw [ht2]; exact hw2
 have hl2 : t2.length = 8 := by rw [ht2, x04]
 have hb2 := WTo.bel H1.out.1 H1.out.2 hw2'
 have hfa := (HH.out.1.st.below hb2).flags_at
 have hbl : M.bl.length = 8 := HH.out.1.st.len
 have HBL := kH hbl
 obtain ⟨BV, hBV⟩ : ∃ BV, BV = M.bl.map Value.bool := ⟨_, rfl⟩
 rw [<- hBV] at hfa
 have hBVl : BV.length = 8 := by rw [hBV, List.length_map]; exact hbl
 have HBV := kH (kA hBV hBVl)
 have H2 := kH (kA hw2' (kA hb2 (kA ht2 hl2)))
 clear hw2 hw2' hb2 ht2 hl2 HN1 HS1 c9 hk1 hbl hBV hBVl
 go_wp2_with (have _h := hfa; refine x7W rfl (.tmp 21) rfl _ rfl BV HBV.out.2 hfa ?_; clear _h hfa)
 go_loopw [23] (fun iv wr => ∃ k : Nat, k <= 8 /\ iv = .int .i64 k /\ WTo w1 w.heap.size [g] (some ⟨g, 0, none⟩) (t2 ++ (flB M.bl).take k) wr) (fun iv _ => 8 - (intS iv).toNat)
 case atStart => exact ⟨0, by omega, rfl, by simpa using H2.out.1⟩
 case round =>
  obtain ⟨k, hk, rfl, hwt⟩ := hrel
  obtain ⟨wq, hwq⟩ : ∃ wq, wq = wr := ⟨_, rfl⟩
  subst hwq
  have hwk : IntKind.i64.wrap ((k : Int) + 1) = (k : Int) + 1 := by rw [IntKind.wrap_i64]; omega
  by_cases hlt : k < 8
  -- {F
  ·obtain ⟨b, hb⟩ : ∃ b, M.bl[k]? = some b := ⟨_, List.getElem?_eq_getElem (by rw [HBL.out]; exact hlt)⟩
   have hix := x9V (P := Tryz.prog) 119 4 BV k (.bool b) Tryz.underlying119 (by kernel_rfl) (fun w => by kernel_rfl) hlt (by rw [HBV.out.1, List.getElem?_map, hb]; rfl) wq
   have htk : (flB M.bl).take (k + 1) = (flB M.bl).take k ++ [if b then 1 else 0] := by
    unfold flB
    rw [List.take_add_one, List.getElem?_map, hb]
    rfl
   have hbq := WTo.bel H1.out.1 H1.out.2 hwt
   obtain ⟨F', hW', ho', hf'⟩ := hwt
   obtain ⟨tk, htk2⟩ : ∃ tk, tk = t2 ++ (flB M.bl).take k := ⟨_, rfl⟩
   rw [<- htk2] at hW'
   have hl3 : tk.length <= 100 := by rw [htk2, List.length_append, H2.out.2.2.2, List.length_take]; omega
   have HT := kH (xI4 wq w.heap.size F' (some ⟨g, 0, none⟩) tk b hW' (by omega) hbq.size)
   have HQ := kH (kA ho' (kA hf' (kA htk htk2)))
   clear hb htk hbq hW' ho' hf' htk2
   go_wp2_with fail
   refine HT.out.mono ?_
   rintro e w3 ⟨rfl, hw3⟩
   have hfin := WTo.after HQ.out.1 HQ.out.2.1 hw3
   have htx : plus (some ⟨g, 0, none⟩) tk [if b then 1 else 0] = t2 ++ (flB M.bl).take (k + 1) := by
    rw [HQ.out.2.2.1, HQ.out.2.2.2]
    show t2 ++ (flB M.bl).take k ++ _ = _
    rw [List.append_assoc]
   rw [htx] at hfin
   have HFIN := kH hfin
   clear hfin htx hw3 HT
   go_wp2_with fail
   go_roundw
   case rel => exact ⟨k + 1, by omega, by go_num, HFIN.out⟩
   case measure => simp [intS]; omega
  -- F}
  ·obtain rfl : k = 8 := by omega
   have hfl8 : (flB M.bl).length = 8 := by unfold flB; rw [List.length_map]; exact HBL.out
   rw [List.take_of_length_le (by omega)] at hwt
   have hbq := WTo.bel H1.out.1 H1.out.2 hwt
   have c0 := (HH.out.1.st.below hbq).c0
   have hml : ∀ ty, (Builtin.len_ #[118] ty #[.map (some ms)]).run Tryz.prog wq = .ok (.int .i64 M.ob.length) wq := fun ty => by
    have := World.ownsMap.len (HH.out.1.st.below hbq).map.owns (t := 118) Tryz.underlying118 ty
    rw [x3C, HKV.out] at this
    exact this
   obtain ⟨F3, hW3, ho3, hf3⟩ := hwt
   obtain ⟨t3, ht3⟩ : ∃ t3, t3 = t2 ++ flB M.bl := ⟨_, rfl⟩
   rw [<- ht3] at hW3
   have hl3 : t3.length = 16 := by rw [ht3, List.length_append, H2.out.2.2.2, hfl8]
   have HT3 := kH (x1C wq w.heap.size F3 (some ⟨g, 0, none⟩) t3 M.ob.length hW3 (by omega) hbq.size)
   have H3 := kH (kA ho3 (kA hf3 (kA ht3 hl3)))
   clear hbq hW3 ho3 hf3 ht3 hl3 hfl8
   go_wp2_with fail
   refine HT3.out.mono ?_
   rintro e w4 ⟨rfl, hw4⟩
   obtain ⟨t4, ht4⟩ : ∃ t4, t4 = t3 ++ numB M.ob.length := ⟨_, rfl⟩
   have hw4' : WTo w1 w.heap.size [g] (some ⟨g, 0, none⟩) t4 w4 := by rw [ht4]; exact WTo.after H3.out.1 H3.out.2.1 hw4
   have hl4 : t4.length = 24 := by rw [ht4, List.length_append, x04, H3.out.2.2.2]
   have hb4 := WTo.bel H1.out.1 H1.out.2 hw4'
   have HN := kH (xJ2 (HH.out.1.below hb4).st (by rw [HKV.out]; omega))
   rw [show noS = { data := #[] } from by kernel_rfl] at HN
   have H4 := kH (kA hw4' (kA hb4 (kA ht4 hl4)))
   clear hw4 hw4' hb4 ht4 hl4 HT3 c0 hml
   go_wp2_with fail
   refine HN.out.mono ?_
   rintro e w5 ⟨vn, ns, rfl, hnp, hns, hrow, hb45⟩
   obtain ⟨An, cn, rfl, hcn, -⟩ := hrow.form
   obtain ⟨F4, hW4, ho4, hf4⟩ := H4.out.1
   have hnsq : ns = srt (M.ob.map (·.1)) := by
    rw [<- HH.out.1.obs.keys ObjR.key]
    exact xDZ hnp hns
   have hu4 := hW4.under
   have hW5 := hW4.below hb45
   have ho5 : Only [g] w1 w5 := ho4.trans (Only.of_below hb45 F4) hf4
   have hnl : ns.length <= 1000000 := by rw [hnp.length_eq, List.length_map, HKV.out]; omega
   have hl5 : t4.length + (ns.flatMap (putK M)).length <= 3000000 := by
    have h1 := HL.out
    have h2 := HH.out.2.2
    have h3 := HBL.out
    have h4 := H4.out.2.2.2
    rw [<- hnsq] at h1
    omega
   have hs5 := hb45.size
   have H5 := kH (kA hW5 (kA ho5 (kA hf4 (kA hu4 (kA hrow (kA hnsq (kA hl5 hnp)))))))
   clear hW5 ho5 hf4 hu4 hrow hnsq hl5 hnp hns hW4 ho4 hb45 HN
   go_wp2_with fail
   go_loopw [40] (fun iv wr => ∃ k : Nat, k <= ns.length /\ iv = .int .i64 k /\ WTo w5 w.heap.size F4 (some ⟨g, 0, none⟩) (t4 ++ (ns.take k).flatMap (putK M)) wr) (fun iv _ => ns.length - (intS iv).toNat)
   case atStart => exact ⟨0, by omega, rfl, F4, by simpa using H5.out.1, Only.refl _ _, Fresh.refl _ _⟩
   case round =>
    obtain ⟨k, hk, rfl, F', hW', ho', hf'⟩ := hrel
    obtain ⟨wp, hwp⟩ : ∃ wp, wp = wr := ⟨_, rfl⟩
    subst hwp
    have hwk : IntKind.i64.wrap ((k : Int) + 1) = (k : Int) + 1 := by rw [IntKind.wrap_i64]; omega
    by_cases hlt : k < ns.length
    -- {N
    ·obtain ⟨kq, hkq⟩ : ∃ kq, ns[k]? = some kq := ⟨_, List.getElem?_eq_getElem hlt⟩
     obtain ⟨o, nm, hgo, hknm, hname⟩ := xET HH.out.2.1 HH.out.1.obs H5.out.2.2.2.2.2.2.2 (List.mem_of_getElem? hkq)
     have hnml : (keyL kq).length <= 32 := by
      rw [x8S, hknm, x8W]
      simp only [isNameB, Bool.and_eq_true, decide_eq_true_eq] at hname
      omega
     obtain ⟨hft, post, hfp⟩ := x6T (putK M) hkq
     have hover := x0I H5.out.2.2.2.2.1
     have hrowq : NamR wp w4.heap.size (.slice An ns.length cn) ns := x12 H5.out.2.2.2.2.1 ho' (fun j hj hm => by have := hover j hj; have := H5.out.2.2.2.1 j hm; omega)
     obtain ⟨ad, u2, rfl, hab, hu2, hc2⟩ := hrowq.reads.at_ hlt
     have hu2' : u2 = .string (strOf (keyL kq)) := by
      rw [List.getElem?_map, hkq, Option.map_some] at hu2
      injection hu2 with hu2
      rw [<- hu2, xIW]
     subst hu2'
     have hpk : putK M kq = putO (keyL kq) o := by unfold putK; rw [hgo]
     obtain ⟨tk, htk⟩ : ∃ tk, tk = t4 ++ (ns.take k).flatMap (putK M) := ⟨_, rfl⟩
     rw [<- htk] at hW'
     have hlk : tk.length + (putO (keyL kq) o).length <= 4000000 := by
      have h1 := H5.out.2.2.2.2.2.2.1
      rw [hfp, hpk] at h1
      rw [htk]
      simp only [List.length_append] at h1 ⊢
      omega
     have hwt0 : WTo w1 w.heap.size [g] (some ⟨g, 0, none⟩) tk wp := WTo.after H5.out.2.1 H5.out.2.2.1 ⟨F', hW', ho', hf'⟩
     have hbp := WTo.bel H1.out.1 H1.out.2 hwt0
     obtain ⟨ha1, ha2, ha3⟩ := xHD HH.out.2.1 hgo hn
     have hod := (HH.out.2.1.obs _ (x1O hgo)).d
     have HP := kH (xP4 HH.out.1 hbp hW' (keyL kq) (x9K kq) (by omega) (o := o) (by rw [x60]; exact hgo) hod ha1 ha2 ha3 hlk)
     have HQ := kH (kA ho' (kA hf' (kA hft (kA hpk htk))))
     clear hkq hgo hknm hname hnml hft hfp hover hrowq hu2 hpk hlk hwt0 hbp ha1 ha2 ha3 hod hW' ho' hf' htk
     go_wp2_with fail
     refine HP.out.mono ?_
     rintro e w6 ⟨rfl, hw6⟩
     have hfin := WTo.after HQ.out.1 HQ.out.2.1 hw6
     have htx : tk ++ putO (keyL kq) o = t4 ++ (ns.take (k + 1)).flatMap (putK M) := by
      rw [HQ.out.2.2.1, HQ.out.2.2.2.1, HQ.out.2.2.2.2, List.append_assoc]
     rw [htx] at hfin
     have HFIN := kH hfin
     clear hfin htx hw6 HP
     go_wp2_with fail
     go_roundw
     case rel => exact ⟨k + 1, by omega, by go_num, HFIN.out⟩
     case measure => simp [intS]; omega
    -- N}
    ·obtain rfl : k = ns.length := by omega
     have hwt0 := WTo.after H5.out.2.1 H5.out.2.2.1 ⟨F', hW', ho', hf'⟩
     have hbp := WTo.bel H1.out.1 H1.out.2 hwt0
     rw [List.take_length] at hW'
     have htx : t4 ++ ns.flatMap (putK M) = putM M := by
      rw [H4.out.2.2.1, H3.out.2.2.1, H2.out.2.2.1, H5.out.2.2.2.2.2.1]
      unfold putM
      simp
     rw [htx] at hW'
     have hsmall : Small (putM M) := by
      rcases hW' with ⟨e, _⟩ | ⟨_, _, _, _, _, _, _, h⟩
      ·cases e
      ·exact h
     have HSM := kH hsmall
     have HO := kH (x7M wp w.heap.size F' (some ⟨g, 0, none⟩) (putM M) hW' (by have := HH.out.2.2; omega))
     have HBP := kH hbp
     clear hwt0 hbp hW' ho' hf' htx hsmall
     go_wp2_with fail
     refine HO.out.mono ?_
     rintro e w7 ⟨v, rfl, hov, hb7⟩
     have HV := kH (kA hov hb7)
     clear hov hb7 HO
     go_wp2
     go_ret
     exact ⟨v, rfl, x0A HV.out.1 HBP.out.size, HBP.out.trans (HV.out.2.mono HBP.out.size), HSM.out⟩
theorem xAU {w : World} {Z : List Nat} {gs ms gp r c n : Nat} {A : Option Addr} {M : Mod} {kv : KV} (h : StoreAt w Z gs ms gp r c A M kv) (hI : Inv n M) (hn : n <= 1000000) (hlen : (putM M).length <= 3000000) :
    Calls Tryz.prog 16 #[.pointer (some ⟨gs, 0, none⟩)] w fun e w' => ∃ v, e = .returned v /\ Own w' w.heap.size v (putM M).length (putM M) /\ Below w.heap.size w w' /\ Small (putM M) := xG0 h hI.p hn hlen
end
section
open Go.RowKit Go.BigFrame
def aS (l : AL) : Nat := (l.map fun q => 16 + q.1.length + q.2.length).sum
theorem x56 {a b : List Nat} (h : a.Perm b) : a.sum = b.sum := h.sum_nat
theorem xNK {a b : AL} (h : a.Perm b) : aS a = aS b := x56 (h.map _)
theorem xA4 (q : Key × List Nat) (l : AL) : aS (q :: l) = 16 + q.1.length + q.2.length + aS l := by simp [aS]
theorem xDN (k : Key) : ∀ l : AL, aS (gdel k l) <= aS l
 | [] => Nat.le_refl _
 | q :: l => by
  have ih := xDN k l
  unfold gdel at ih ⊢
  rw [List.filter_cons, xA4]
  split
  ·rw [xA4]; omega
  ·omega
theorem xPC (k : Key) (v : List Nat) (l : AL) : aS (gput k v l) <= 16 + k.length + v.length + aS l := by
 rw [xNK (x3H k v l), xA4]
 have := xDN k l
 show 16 + k.length + v.length + aS (gdel k l) <= _
 omega
theorem xOC {bl : List Bool} {W : Wk} {x : StepV} (h : Keys1 W.a) : Keys1 (stepW bl W x).1.a /\ aS (stepW bl W x).1.a <= aS W.a + 1100 := by
 have h0 : Keys1 W.a /\ aS W.a <= aS W.a + 1100 := ⟨h, Nat.le_add_right _ _⟩
 have hnil : Keys1 ([] : AL) /\ aS [] <= aS W.a + 1100 := ⟨List.nodup_nil, by simp [aS]⟩
 unfold stepW
 split
 ·exact h0
 split
 ·unfold becomeW
  split
  ·exact h0
  ·exact hnil
 split
 ·unfold becomeW
  split
  ·exact h0
  ·exact hnil
 split
 ·split
  ·unfold insideW
   split
   ·split
    ·rename_i hn
     simp only [Bool.and_eq_true, decide_eq_true_eq, isNameB] at hn
     refine ⟨h.put _ _, ?_⟩
     have := xPC (keyB x.nm) x.dt W.a
     rw [x8W] at this
     simp only
     omega
    ·exact h0
   split
   ·exact ⟨h.del _, by have := xDN (keyB x.nm) W.a; simp only; omega⟩
   split
   ·split
    ·exact h0
    ·exact h0
   split
   ·exact h0
   split
   ·exact h0
   split
   ·exact h0
   split
   ·exact h0
   ·exact h0
  ·exact h0
 ·exact h0
theorem xJK {bl : List Bool} : ∀ {xs : List StepV} {W : Wk}, Keys1 W.a -> Keys1 (runW bl W xs).1.a /\ aS (runW bl W xs).1.a <= aS W.a + 1100 * xs.length
 | [], W, h => ⟨h, by simp [runW]⟩
 | x :: xs, W, h => by
  obtain ⟨h1, h2⟩ := xOC (bl := bl) (x := x) h
  rw [x4D]
  split
  ·obtain ⟨h3, h4⟩ := xJK (bl := bl) (xs := xs) h1
   refine ⟨h3, ?_⟩
   rw [List.length_cons]
   omega
  ·refine ⟨h1, ?_⟩
   rw [List.length_cons]
   omega
def totA (ob : List (Key × Ob)) : Nat := (ob.map fun p => aS p.2.a).sum
theorem xBA {a b : List (Key × Ob)} (h : a.Perm b) : totA a = totA b := x56 (h.map _)
theorem x6O (p : Key × Ob) (l : List (Key × Ob)) : totA (p :: l) = aS p.2.a + totA l := by simp [totA]
structure InvA (n : Nat) (M : Mod) : Prop where
 ak : ∀ p ∈ M.ob, Keys1 p.2.a
 tot : totA M.ob <= 1100 * n
theorem InvA.mono {n m : Nat} {M : Mod} (h : InvA n M) (hm : n <= m) : InvA m M := ⟨h.ak, Nat.le_trans h.tot (Nat.mul_le_mul_left _ hm)⟩
theorem invA0 (n : Nat) : InvA 0 (M0 n) := ⟨fun p hp => (by cases hp), Nat.zero_le _⟩
theorem xA9 {n k : Nat} {M M' : Mod} {nm : List Nat} {xs : List StepV} {told : List (List Nat)} (hk : Keys1 M.ob) (h : InvA n M) (hd : DoR M nm xs M' k told) : InvA (n + 16) M' := by
 cases hd with
 | range => exact h.mono (by omega)
 | step => exact h.mono (by omega)
 | full => exact h.mono (by omega)
 | @done es fl _ _ h16 _ _ =>
  have hs : Keys1 (startW M (keyB nm)).a /\ totA M.ob = aS (startW M (keyB nm)).a + totA (gdel (keyB nm) M.ob) := by
   unfold startW
   cases hg : gget M.ob (keyB nm) with
   | none => exact ⟨List.nodup_nil, by rw [xAK hg]; simp [aS]⟩
   | some o => exact ⟨h.ak _ (x1O hg), by rw [xBA (xAL hk hg), x6O]⟩
  obtain ⟨h1, h2⟩ := xJK (bl := M.bl) (xs := xs) hs.1
  generalize (runW M.bl (startW M (keyB nm)) xs).1 = W at *
  have ht := h.tot
  unfold endM
  cases hth : W.th with
  | true =>
   refine ⟨fun p hp => ?_, ?_⟩
   ·simp only [if_true] at hp
    rcases x2O hp with rfl | hp
    ·exact h1
    ·exact h.ak p hp
   ·simp only [if_true]
    rw [xBA (x3H _ _ _), x6O]
    simp only
    omega
  | false =>
   refine ⟨fun p hp => ?_, ?_⟩
   ·simp only [Bool.false_eq_true, if_false] at hp
    exact h.ak p (x2P _ _ _ hp)
   ·simp only [Bool.false_eq_true, if_false]
    omega
theorem x6N {α : Type} (f : α -> List Nat) (l : List α) : (l.flatMap f).length = (l.map fun x => (f x).length).sum := by
 induction l with
 | nil => rfl
 | cons a l ih => simp [ih]
theorem xL2 (a : AL) (h : Keys1 a) : ((atL a (srt (a.map (·.1)))).flatMap putA).length = aS a := by
 rw [x6N]
 unfold atL
 rw [List.map_map]
 have hp : (srt (a.map (·.1))).Perm (a.map (·.1)) := List.mergeSort_perm _ _
 rw [x56 (hp.map _), List.map_map]
 unfold aS
 congr 1
 refine List.map_congr_left fun q hq => ?_
 simp only [Function.comp_apply, h.get hq, Option.getD_some, putA, List.length_append, x1B, x8S]
 omega
theorem xLO (e : List (Nat × Nat)) : (e.flatMap putE).length = 16 * e.length := by
 induction e with
 | nil => rfl
 | cons x e ih =>
  rw [List.flatMap_cons, List.length_append, ih, List.length_cons]
  simp only [putE, List.length_append, x04]
  omega
theorem xD2 : ∀ (L : List (Key × Ob)), (∀ p ∈ L, p.1.length <= 32 /\ p.2.d.length <= 16 * lens p.2.e /\ p.2.e.length <= lens p.2.e) -> (L.map fun p => 32 + p.1.length + p.2.d.length + aS p.2.a + 16 * p.2.e.length).sum <= 64 * L.length + 32 * lens (exts L) + totA L
 | [], _ => by simp
 | p :: L, h => by
  have ih := xD2 L (fun q hq => h q (by simp [hq]))
  obtain ⟨h1, h2, h3⟩ := h p (by simp)
  have e : exts (p :: L) = p.2.e ++ exts L := rfl
  rw [e, x8X, x6O, List.map_cons, List.sum_cons, List.length_cons]
  omega
theorem xM2 {n : Nat} {M : Mod} (h : Inv n M) (hA : InvA n M) : (putM M).length <= 24 + 1164 * n + 32 * M.fl.length := by
 have hlen : (putM M).length = 8 + (M.bl.length + (8 + ((srt (M.ob.map (·.1))).flatMap (putK M)).length)) := by unfold putM; simp only [List.length_append, x04, flB, List.length_map]
 have hk : ((srt (M.ob.map (·.1))).flatMap (putK M)).length = (M.ob.map fun p => 32 + p.1.length + p.2.d.length + aS p.2.a + 16 * p.2.e.length).sum := by
  rw [x6N]
  have hp : (srt (M.ob.map (·.1))).Perm (M.ob.map (·.1)) := List.mergeSort_perm _ _
  rw [x56 (hp.map _), List.map_map]
  congr 1
  refine List.map_congr_left fun p hpm => ?_
  simp only [Function.comp_apply, putK, h.keys.get hpm, putO, List.length_append, x1B, x04, xL2 _ (hA.ak p hpm), xLO, x8S]
  omega
 have hs := xD2 M.ob (fun p hpm => by
  have ho := h.obs p hpm
  obtain ⟨nm, e, hn⟩ := h.nms p hpm
  have hl := x28 (L := p.2.e) (fun e he => h.good.pos e (List.mem_flatMap.2 ⟨p, hpm, he⟩))
  have h1 := ho.e
  unfold needsB at h1
  refine ⟨?_, by omega, hl⟩
  rw [e, x8W]
  simp only [isNameB, Bool.and_eq_true, decide_eq_true_eq] at hn
  omega)
 have hc := x8R h.good
 have hf := h.few
 have ht := hA.tot
 have hb := h.bl
 rw [hlen, hk]
 omega
end
section
open Go.RowKit Go.BigFrame
theorem x8U {fl f1 f2 : List Bool} {W : Wk} {e1 e2 : List (Nat × Nat)} {k1 k2 : Nat} (h1 : FitR fl W e1 f1 k1) (h2 : FitR fl W e2 f2 k2) : e1 = e2 /\ f1 = f2 /\ k1 = k2 := by
 cases h1 with
 | give a =>
  cases h2 with
  | give _ => exact ⟨rfl, rfl, rfl⟩
  | full b _ => omega
  | take b _ _ => omega
 | full a b =>
  cases h2 with
  | give c => omega
  | full _ _ => exact ⟨rfl, rfl, rfl⟩
  | take _ d _ => omega
 | take a b c =>
  cases h2 with
  | give d => omega
  | full _ d => omega
  | take _ _ d =>
   have := c.one d
   subst this
   exact ⟨rfl, rfl, rfl⟩
theorem xOP {M M1 M2 : Mod} {nm : List Nat} {xs : List StepV} {k1 k2 : Nat} {t1 t2 : List (List Nat)} (h1 : DoR M nm xs M1 k1 t1) (h2 : DoR M nm xs M2 k2 t2) : M1 = M2 /\ k1 = k2 /\ t1 = t2 := by
 cases h1 with
 | range a =>
  cases h2 with
  | range _ => exact ⟨rfl, rfl, rfl⟩
  | step b c d _ => rcases a with a | a | a; (rw [a] at b; cases b); omega; omega
  | full b c d _ _ => rcases a with a | a | a; (rw [a] at b; cases b); omega; omega
  | done b c d _ _ => rcases a with a | a | a; (rw [a] at b; cases b); omega; omega
 | step b c d f =>
  cases h2 with
  | range a => rcases a with a | a | a; (rw [a] at b; cases b); omega; omega
  | step _ _ _ _ => exact ⟨rfl, rfl, rfl⟩
  | full _ _ _ g _ => exact absurd g f
  | done _ _ _ g _ => exact absurd g f
 | full b c d f g =>
  cases h2 with
  | range a => rcases a with a | a | a; (rw [a] at b; cases b); omega; omega
  | step _ _ _ i => exact absurd f i
  | full _ _ _ _ _ => exact ⟨rfl, rfl, rfl⟩
  | done _ _ _ _ i => exact absurd (x8U g i).2.2 (by decide)
 | done b c d f g =>
  cases h2 with
  | range a => rcases a with a | a | a; (rw [a] at b; cases b); omega; omega
  | step _ _ _ i => exact absurd f i
  | full _ _ _ _ i => exact absurd (x8U g i).2.2 (by decide)
  | done _ _ _ _ i =>
   obtain ⟨e1, e2, _⟩ := x8U g i
   subst e1 e2
   exact ⟨rfl, rfl, rfl⟩
def AOk (q : Key × List Nat) : Prop := (∃ nm, q.1 = keyB nm /\ isNameB nm = true) /\ q.2.length <= 1024
theorem xL1 {bl : List Bool} {W : Wk} {x : StepV} (h : ∀ q ∈ W.a, AOk q) : ∀ q ∈ (stepW bl W x).1.a, AOk q := by
 have hnil : ∀ q ∈ ([] : AL), AOk q := fun q hq => by cases hq
 unfold stepW
 split
 ·exact h
 split
 ·unfold becomeW
  split
  ·exact h
  ·exact hnil
 split
 ·unfold becomeW
  split
  ·exact h
  ·exact hnil
 split
 ·split
  ·unfold insideW
   split
   ·split
    ·rename_i hn
     simp only [Bool.and_eq_true, decide_eq_true_eq] at hn
     intro q hq
     rcases x2O hq with rfl | hq
     ·exact ⟨⟨x.nm, rfl, hn.1⟩, hn.2⟩
     ·exact h q hq
    ·exact h
   split
   ·exact fun q hq => h q (x2P _ _ q hq)
   split
   ·split
    ·exact h
    ·exact h
   split
   ·exact h
   split
   ·exact h
   split
   ·exact h
   split
   ·exact h
   ·exact h
  ·exact h
 ·exact h
theorem xFK {bl : List Bool} : ∀ {xs : List StepV} {W : Wk}, (∀ q ∈ W.a, AOk q) -> ∀ q ∈ (runW bl W xs).1.a, AOk q
 | [], W, h => h
 | x :: xs, W, h => by
  have h1 := xL1 (bl := bl) (x := x) h
  rw [x4D]
  split
  ·exact xFK h1
  ·exact h1
def InvN (M : Mod) : Prop := ∀ p ∈ M.ob, ∀ q ∈ p.2.a, AOk q
theorem xAJ {M M' : Mod} {nm : List Nat} {xs : List StepV} {k : Nat} {told : List (List Nat)} (h : InvN M) (hd : DoR M nm xs M' k told) : InvN M' := by
 cases hd with
 | range => exact h
 | step => exact h
 | full => exact h
 | @done es fl _ _ _ _ _ =>
  have hs : ∀ q ∈ (startW M (keyB nm)).a, AOk q := by
   unfold startW
   cases hg : gget M.ob (keyB nm) with
   | none => exact fun q hq => by cases hq
   | some o => exact h _ (x1O hg)
  have hr := xFK (bl := M.bl) (xs := xs) hs
  generalize (runW M.bl (startW M (keyB nm)) xs).1 = W at *
  unfold endM
  cases hth : W.th with
  | true =>
   intro p hp
   simp only [if_true] at hp
   rcases x2O hp with rfl | hp
   ·exact hr
   ·exact h p hp
  | false =>
   intro p hp
   simp only [Bool.false_eq_true, if_false] at hp
   exact h p (x2P _ _ _ hp)
end
section
open Go.RowKit Go.BigFrame
section
variable {V : Type}
def Rise (l : List (Key × V)) : Prop := l.Pairwise fun p q => bytesBefore p.1 q.1 = true
theorem Rise.del {l : List (Key × V)} (h : Rise l) (k : Key) : Rise (gdel k l) := List.Pairwise.sublist List.filter_sublist h
theorem Rise.ins {x : Key × V} : ∀ {l : List (Key × V)}, Rise l -> (∀ p ∈ l, p.1 ≠ x.1) -> Rise (gins x l)
 | [], _, _ => List.pairwise_singleton _ _
 | y :: r, h, hx => by
  obtain ⟨h1, h2⟩ := List.pairwise_cons.1 h
  rw [gins]
  cases hb : bytesBefore x.1 y.1 with
  | true =>
   simp only [if_true]
   refine List.pairwise_cons.2 ⟨fun q hq => ?_, h⟩
   rcases List.mem_cons.1 hq with rfl | hq
   ·exact hb
   ·exact WideShapes.bytes_trans _ _ _ hb (h1 q hq)
  | false =>
   simp only [Bool.false_eq_true, if_false]
   have hyx : bytesBefore y.1 x.1 = true := by
    rcases WideAt.bytes_total x.1 y.1 (fun e => hx y (by simp) e.symm) with h3 | h3
    ·rw [hb] at h3; cases h3
    ·exact h3
   refine List.pairwise_cons.2 ⟨fun q hq => ?_, Rise.ins h2 fun p hp => hx p (by simp [hp])⟩
   rcases List.mem_cons.1 ((x6K x r).mem_iff.1 hq) with rfl | hq
   ·exact hyx
   ·exact h1 q hq
theorem Rise.put {l : List (Key × V)} (h : Rise l) (k : Key) (v : V) : Rise (gput k v l) := (h.del k).ins fun p hp => (x70 k l p hp).1
end
def RiseM (M : Mod) : Prop := Rise M.ob /\ ∀ p ∈ M.ob, Rise p.2.a
theorem xI1 {bl : List Bool} {W : Wk} {x : StepV} (h : Rise W.a) : Rise (stepW bl W x).1.a := by
 have hnil : Rise ([] : AL) := List.Pairwise.nil
 unfold stepW
 split
 ·exact h
 split
 ·unfold becomeW
  split
  ·exact h
  ·exact hnil
 split
 ·unfold becomeW
  split
  ·exact h
  ·exact hnil
 split
 ·split
  ·unfold insideW
   split
   ·split
    ·exact h.put _ _
    ·exact h
   split
   ·exact h.del _
   split
   ·split
    ·exact h
    ·exact h
   split
   ·exact h
   split
   ·exact h
   split
   ·exact h
   split
   ·exact h
   ·exact h
  ·exact h
 ·exact h
theorem xD8 {bl : List Bool} : ∀ {xs : List StepV} {W : Wk}, Rise W.a -> Rise (runW bl W xs).1.a
 | [], W, h => h
 | x :: xs, W, h => by
  have h1 := xI1 (bl := bl) (x := x) h
  rw [x4D]
  split
  ·exact xD8 h1
  ·exact h1
theorem xAD {M M' : Mod} {nm : List Nat} {xs : List StepV} {k : Nat} {told : List (List Nat)} (h : RiseM M) (hd : DoR M nm xs M' k told) : RiseM M' := by
 cases hd with
 | range => exact h
 | step => exact h
 | full => exact h
 | @done es fl _ _ _ _ _ =>
  have hs : Rise (startW M (keyB nm)).a := by
   unfold startW
   cases hg : gget M.ob (keyB nm) with
   | none => exact List.Pairwise.nil
   | some o => exact h.2 _ (x1O hg)
  have hr := xD8 (bl := M.bl) (xs := xs) hs
  generalize (runW M.bl (startW M (keyB nm)) xs).1 = W at *
  unfold endM
  cases hth : W.th with
  | true =>
   refine ⟨?_, fun p hp => ?_⟩
   ·simp only [if_true]
    exact h.1.put _ _
   ·simp only [if_true] at hp
    rcases x2O hp with rfl | hp
    ·exact hr
    ·exact h.2 p hp
  | false =>
   refine ⟨?_, fun p hp => ?_⟩
   ·simp only [Bool.false_eq_true, if_false]
    exact h.1.del _
   ·simp only [Bool.false_eq_true, if_false] at hp
    exact h.2 p (x2P _ _ _ hp)
end
section
open Go.RowKit Go.BigFrame Go.Shelf Go.Sort Go.Maps Go.WideElems
def tkM (bs : List Nat) : Option Mod := (tkP bs).bind fun M => if putM M = bs then some M else none
theorem xC8 {bs : List Nat} {M : Mod} (h : tkP bs = some M) (h2 : putM M = bs) : tkM bs = some M := by
 unfold tkM
 rw [h, Option.bind_some, if_pos h2]
theorem xP9 {bs : List Nat} {M : Mod} (h : tkP bs = some M) (h2 : putM M ≠ bs) : tkM bs = none := by
 unfold tkM
 rw [h, Option.bind_some, if_neg h2]
theorem xDD {bs : List Nat} (h : tkP bs = none) : tkM bs = none := by
 unfold tkM
 rw [h, Option.bind_none]
theorem x7Q (a rest : List Nat) : (⟨a ++ rest, false⟩ : RD).take a.length = ⟨rest, false⟩ /\ (⟨a ++ rest, false⟩ : RD).got a.length = a := by
 have h := RD.take_fit (s := ⟨a ++ rest, false⟩) (k := a.length) rfl (by simp)
 refine ⟨h.1.trans ?_, h.2.trans ?_⟩
 ·simp
 ·simp
theorem x6Y (n : Int) (h1 : -9223372036854775808 <= n) (h2 : n <= 9223372036854775807) (rest : List Nat) : (⟨numB n ++ rest, false⟩ : RD).num = n /\ (⟨numB n ++ rest, false⟩ : RD).take 8 = ⟨rest, false⟩ := by
 have h := x7Q (numB n) rest
 rw [x04] at h
 refine ⟨?_, h.1⟩
 unfold RD.num
 have h3 : (⟨numB n ++ rest, false⟩ : RD).got ((8 : Nat) : Int) = (⟨numB n ++ rest, false⟩ : RD).got 8 := rfl
 rw [<- h3, h.2]
 exact x3P n h1 h2
theorem x49 (n : Nat) (h : n <= 9000000) (rest : List Nat) : (⟨numB (n : Int) ++ rest, false⟩ : RD).num = n /\ (⟨numB (n : Int) ++ rest, false⟩ : RD).take 8 = ⟨rest, false⟩ := x6Y n (by omega) (by omega) rest
theorem x58 (bs : List Nat) (h : bs.length <= 9000000) (rest : List Nat) : (⟨sttxB bs ++ rest, false⟩ : RD).bytes = bs /\ (⟨sttxB bs ++ rest, false⟩ : RD).bytesTo = ⟨rest, false⟩ := by
 have h1 := x49 bs.length h (bs ++ rest)
 have h2 := x7Q bs rest
 unfold RD.bytes RD.bytesTo sttxB
 rw [List.append_assoc, h1.1, h1.2]
 exact ⟨h2.2, h2.1⟩
theorem xFJ (f : Bool) (rest : List Nat) : (⟨(if f then 1 else 0) :: rest, false⟩ : RD).flag = f /\ (⟨(if f then 1 else 0) :: rest, false⟩ : RD).flagTo = ⟨rest, false⟩ := by
 have h := x7Q [if f then 1 else 0] rest
 have hb : (⟨(if f then 1 else 0) :: rest, false⟩ : RD).byte = if f then 1 else 0 := by
  unfold RD.byte
  have : (⟨(if f then 1 else 0) :: rest, false⟩ : RD).got 1 = [if f then 1 else 0] := h.2
  rw [this]
  rfl
 refine ⟨?_, ?_⟩
 ·unfold RD.flag
  rw [hb]
  cases f <;> rfl
 ·unfold RD.flagTo
  rw [hb, if_neg (by cases f <;> simp)]
  exact h.1
theorem xJL (bl : List Bool) (h : bl.length = 8) (rest : List Nat) : ∀ k, k <= 8 -> flS ⟨flB bl ++ rest, false⟩ k = (⟨(flB bl).drop k ++ rest, false⟩, bl.take k ++ List.replicate (8 - k) false)
 | 0, _ => rfl
 | k + 1, hk => by
  have ih := xJL bl h rest k (by omega)
  have hl : k < bl.length := by omega
  have hd : (flB bl).drop k = (if bl[k] then 1 else 0) :: (flB bl).drop (k + 1) := by
   have hl2 : k < (flB bl).length := by unfold flB; rw [List.length_map]; exact hl
   rw [List.drop_eq_getElem_cons hl2]
   congr 1
   simp [flB]
  have hr : List.replicate (8 - k) false = false :: List.replicate (8 - (k + 1)) false := by
   rw [show 8 - k = (8 - (k + 1)) + 1 by omega]
   rfl
  rw [flS, ih]
  simp only
  rw [hd, List.cons_append, (xFJ _ _).1, (xFJ _ _).2, hr, List.set_append_right _ _ (by rw [List.length_take]; omega), List.length_take, Nat.min_eq_left (by omega), Nat.sub_self, List.set_cons_zero, List.take_succ_eq_append_getElem hl, List.append_assoc]
  rfl
theorem xOH (bl : List Bool) (h : bl.length = 8) (rest : List Nat) : flS ⟨flB bl ++ rest, false⟩ 8 = (⟨rest, false⟩, bl) := by
 have h8 := xJL bl h rest 8 (Nat.le_refl _)
 rw [h8, List.drop_of_length_le (by unfold flB; rw [List.length_map]; omega), List.take_of_length_le (by omega)]
 simp
theorem xCK {V : Type} {k : Key} {v : V} : ∀ {l r : List (Key × V)}, Rise (l ++ (k, v) :: r) -> gput k v l = l ++ [(k, v)] := by
 intro l r h
 have hb : ∀ p ∈ l, bytesBefore p.1 k = true := fun p hp => (List.pairwise_append.1 h).2.2 p hp (k, v) (by simp)
 have hne : ∀ p ∈ l, p.1 ≠ k := fun p hp e => by
  have := hb p hp
  rw [e, WideAt.bytes_irrefl] at this
  cases this
 have hd : gdel k l = l := List.filter_eq_self.2 fun p hp => by simpa using hne p hp
 unfold gput
 rw [hd]
 clear hd hne h
 induction l with
 | nil => rfl
 | cons y l ih =>
  have hy := hb y (by simp)
  have hn : bytesBefore k y.1 = false := by
   cases hc : bytesBefore k y.1 with
   | false => rfl
   | true =>
    have := WideShapes.bytes_trans _ _ _ hy hc
    rw [WideAt.bytes_irrefl] at this
    cases this
  rw [gins, hn]
  simp only [Bool.false_eq_true, if_false, List.cons_append]
  rw [ih fun p hp => hb p (by simp [hp])]
theorem xB6 : ∀ {a b : List UInt8}, bytesBefore a b = true -> a < b
 | [], [], h => by cases h
 | [], _ :: _, _ => List.nil_lt_cons _ _
 | _ :: _, [], h => by cases h
 | x :: r, y :: s, h => by
  simp only [bytesBefore, Bool.or_eq_true, decide_eq_true_eq, Bool.and_eq_true, beq_iff_eq] at h
  rw [List.cons_lt_cons_iff]
  rcases h with h | ⟨h, h2⟩
  ·exact .inl h
  ·exact .inr ⟨h, xB6 h2⟩
theorem xE1 {V : Type} {l : List (Key × V)} (h : Rise l) : srt (l.map (·.1)) = l.map (·.1) :=
 (xDZ (List.Perm.refl _) (by
  rw [List.pairwise_map]
  refine h.imp fun {p q} hb => ?_
  simp only [leB, decide_eq_true_eq]
  exact List.le_of_lt (xB6 hb))).symm
theorem xJD {bs : List Nat} (h : isNameB bs = true) : ∀ b ∈ bs, b < 256 := fun b hb => by
 simp only [isNameB, Bool.and_eq_true, List.all_eq_true] at h
 have := h.2 b hb
 simp only [okChar, Bool.and_eq_true, decide_eq_true_eq] at this
 omega
theorem xPE {nm : List Nat} (h : ∀ b ∈ nm, b < 256) : keyL (keyB nm) = nm := by
 unfold keyL keyB
 rw [List.map_map]
 conv => rhs; rw [<- List.map_id nm]
 refine List.map_congr_left fun b hb => ?_
 have := h b hb
 simp only [Function.comp_apply, id, UInt8.toNat_ofNat']
 omega
theorem xK7 {k : Key} (h : ∃ nm, k = keyB nm /\ isNameB nm = true) : isNameB (keyL k) = true /\ (keyL k).length <= 32 := by
 obtain ⟨nm, rfl, hn⟩ := h
 rw [xPE (xJD hn)]
 exact ⟨hn, (x8Q hn).2⟩
theorem xN2 {a : AL} (h : Rise a) (hk : Keys1 a) : atL a (srt (a.map (·.1))) = a := by
 rw [xE1 h]
 unfold atL
 rw [List.map_map]
 conv => rhs; rw [<- List.map_id a]
 refine List.map_congr_left fun q hq => ?_
 simp only [Function.comp_apply, hk.get hq, Option.getD_some, id]
theorem Rise.keys {V : Type} {l : List (Key × V)} (h : Rise l) : Keys1 l := by
 unfold Keys1
 rw [List.Nodup, List.pairwise_map]
 refine h.imp fun {p q} hb e => ?_
 rw [e, WideAt.bytes_irrefl] at hb
 cases hb
theorem xFN : ∀ (l acc : AL) (rest : List Nat), Rise (acc ++ l) -> (∀ q ∈ l, AOk q) -> tkA l.length ⟨l.flatMap putA ++ rest, false⟩ acc = some (acc ++ l, ⟨rest, false⟩)
 | [], acc, rest, _, _ => by simp [tkA]
 | q :: l, acc, rest, h, hok => by
  obtain ⟨hn, hv⟩ := hok q (by simp)
  obtain ⟨hn1, hn2⟩ := xK7 hn
  have h1 := x58 (keyL q.1) (by omega) (sttxB q.2 ++ (l.flatMap putA ++ rest))
  have h2 := x58 q.2 (by omega) (l.flatMap putA ++ rest)
  have e : (q :: l).flatMap putA ++ rest = sttxB (keyL q.1) ++ (sttxB q.2 ++ (l.flatMap putA ++ rest)) := by
   rw [List.flatMap_cons]
   simp [putA]
  rw [e, List.length_cons, tkA, h1.1, h1.2, h2.1, h2.2, if_pos ⟨hn1, hv⟩, x60, xCK (k := q.1) (v := q.2) h]
  have := xFN l (acc ++ [q]) rest (by simpa using h) (fun p hp => hok p (by simp [hp]))
  rw [this]
  simp
theorem xFX : ∀ (l acc : List (Nat × Nat)) (fl : List Bool) (rest : List Nat), OkA fl l false -> (∀ e ∈ l, 1 <= e.2) -> fl.length <= 65536 -> tkE l.length ⟨l.flatMap putE ++ rest, false⟩ fl acc = some (acc ++ l, setA fl l false, ⟨rest, false⟩)
 | [], acc, fl, rest, _, _, _ => by simp [tkE, setA]
 | e :: l, acc, fl, rest, h, hp, hl => by
  have hin := h.1.1
  have hpe := hp e (by simp)
  have h1 := x49 e.1 (by omega) (numB e.2 ++ (l.flatMap putE ++ rest))
  have h2 := x49 e.2 (by omega) (l.flatMap putE ++ rest)
  have e0 : (e :: l).flatMap putE ++ rest = numB e.1 ++ (numB e.2 ++ (l.flatMap putE ++ rest)) := by
   rw [List.flatMap_cons]
   simp [putE]
  have hf : freeB fl (e.1 : Int) (e.2 : Int) = true := x4L.2 ⟨e.1, e.2, rfl, rfl, hpe, h.1⟩
  rw [e0, List.length_cons, tkE, h1.1, h1.2, h2.1, h2.2, if_pos hf, Int.toNat_natCast, Int.toNat_natCast]
  have := xFX l (acc ++ [(e.1, e.2)]) (setR fl e.1 e.2 false) rest h.2 (fun p hp' => hp p (by simp [hp'])) (by rw [x0T hin]; exact hl)
  rw [this, x1L]
  simp
structure OkT (p : Key × Ob) : Prop where
 nm : ∃ nm, p.1 = keyB nm /\ isNameB nm = true
 d : p.2.d.length <= 65536
 a : Rise p.2.a
 ok : ∀ q ∈ p.2.a, AOk q
 al : p.2.a.length <= 9000000
 e : lens p.2.e = needsB p.2.d
 pos : ∀ e ∈ p.2.e, 1 <= e.2
theorem xNZ {p : Key × Ob} {M : Mod} {rest : List Nat} (h : OkT p) (hok : OkA M.fl p.2.e false) (hl : M.fl.length <= 65536) : tkO ⟨putO (keyL p.1) p.2 ++ rest, false⟩ M = some (⟨M.bl, setA M.fl p.2.e false, gput p.1 p.2 M.ob⟩, ⟨rest, false⟩) := by
 obtain ⟨hn1, hn2⟩ := xK7 h.nm
 have hd := h.d
 have hel := x28 h.pos
 have he := h.e
 have hal := h.al
 unfold needsB at he
 obtain ⟨t4, ht4⟩ : ∃ t4, t4 = p.2.e.flatMap putE ++ rest := ⟨_, rfl⟩
 obtain ⟨t3, ht3⟩ : ∃ t3, t3 = numB p.2.e.length ++ t4 := ⟨_, rfl⟩
 obtain ⟨t2, ht2⟩ : ∃ t2, t2 = p.2.a.flatMap putA ++ t3 := ⟨_, rfl⟩
 obtain ⟨t1, ht1⟩ : ∃ t1, t1 = numB p.2.a.length ++ t2 := ⟨_, rfl⟩
 have h1 := x58 (keyL p.1) (by omega) (sttxB p.2.d ++ t1)
 have h2 := x58 p.2.d (by omega) t1
 have h3 := x49 p.2.a.length (by omega) t2
 have h4 := x49 p.2.e.length (by omega) t4
 have e0 : putO (keyL p.1) p.2 ++ rest = sttxB (keyL p.1) ++ (sttxB p.2.d ++ t1) := by
  unfold putO
  rw [xN2 h.a h.a.keys, ht1, ht2, ht3, ht4]
  simp
 have hA := xFN p.2.a [] t3 (by simpa using h.a) h.ok
 have hE := xFX p.2.e [] M.fl rest hok h.pos hl
 rw [<- ht2] at hA
 rw [<- ht4] at hE
 obtain ⟨sr, hs⟩ : ∃ sr : RD, sr = ⟨putO (keyL p.1) p.2 ++ rest, false⟩ := ⟨_, rfl⟩
 have q1 : sr.bytes = keyL p.1 := by rw [hs, e0]; exact h1.1
 have q2 : sr.bytesTo = ⟨sttxB p.2.d ++ t1, false⟩ := by rw [hs, e0]; exact h1.2
 have q3 : sr.bytesTo.bytes = p.2.d := by rw [q2]; exact h2.1
 have q4 : sr.bytesTo.bytesTo = ⟨t1, false⟩ := by rw [q2]; exact h2.2
 have q5 : sr.bytesTo.bytesTo.num.toNat = p.2.a.length := by rw [q4, ht1, h3.1]; exact Int.toNat_natCast _
 have q6 : sr.bytesTo.bytesTo.take 8 = ⟨t2, false⟩ := by rw [q4, ht1]; exact h3.2
 have q7 : (⟨t3, false⟩ : RD).num.toNat = p.2.e.length := by rw [ht3, h4.1]; exact Int.toNat_natCast _
 have q8 : (⟨t3, false⟩ : RD).take 8 = ⟨t4, false⟩ := by rw [ht3]; exact h4.2
 have hT := xDO (s := sr) (M := M) (a := p.2.a) (e := p.2.e) (fl := setA M.fl p.2.e false) (s3 := ⟨t3, false⟩) (s4 := ⟨rest, false⟩) ⟨by rw [q1]; exact hn1, by rw [q3]; exact hd⟩ (by rw [q5, q6]; exact hA) (by rw [q7, q8]; exact hE) (by rw [q3]; exact h.e)
 rw [<- hs, hT, q1, q3, x60]
theorem xFS : ∀ (L acc : List (Key × Ob)) (bl fl : List Bool) (rest : List Nat), Rise (acc ++ L) -> (∀ p ∈ L, OkT p) -> OkA fl (exts L) false -> fl.length <= 65536 →
  tkN L.length ⟨L.flatMap (fun p => putO (keyL p.1) p.2) ++ rest, false⟩ ⟨bl, fl, acc⟩ = some (⟨bl, setA fl (exts L) false, acc ++ L⟩, ⟨rest, false⟩)
 | [], acc, bl, fl, rest, _, _, _, _ => by simp [tkN, exts, setA]
 | p :: L, acc, bl, fl, rest, h, hok, ho, hl => by
  have hx : exts (p :: L) = p.2.e ++ exts L := rfl
  rw [hx, OkA.app] at ho
  have h1 := xNZ (p := p) (M := ⟨bl, fl, acc⟩) (rest := L.flatMap (fun p => putO (keyL p.1) p.2) ++ rest) (hok p (by simp)) ho.1 hl
  have hT := xE0 (k := L.length) h1
  rw [List.length_cons, List.flatMap_cons, List.append_assoc, hT]
  simp only
  rw [xCK (k := p.1) (v := p.2) h]
  have := xFS L (acc ++ [p]) bl (setA fl p.2.e false) rest (by simpa using h) (fun q hq => hok q (by simp [hq])) ho.2 (by rw [ho.1.len]; exact hl)
  rw [this, hx, x8P]
  simp
theorem xOQ {fl : List Bool} {L : List (Nat × Nat)} (h : Good fl L) : OkA (List.replicate fl.length true) L false /\ setA (List.replicate fl.length true) L false = fl := by
 have hok : OkA (List.replicate fl.length true) L false := (x4Y L _ false h.pos).2 ⟨fun e he => ⟨by simpa using h.inn e he, fun j h1 h2 => by have := h.inn e he; rw [List.getElem?_replicate, if_pos (by omega)]; rfl⟩, h.dis⟩
 refine ⟨hok, ?_⟩
 apply List.ext_getElem?
 intro j
 obtain ⟨h1, h2⟩ := hok.at_ j
 by_cases hj : j < fl.length
 ·have hc := h.cov j hj
  by_cases hv : Cov L j
  ·rw [(h1 hv).1, hc.1 hv]
  ·rw [h2 hv, List.getElem?_replicate, if_pos hj]
   have hn : fl[j]? ≠ some false := fun e => hv (hc.2 e)
   rw [List.getElem?_eq_getElem hj] at hn ⊢
   cases hb : fl[j] with
   | true => rfl
   | false => rw [hb] at hn; exact absurd rfl hn
 ·rw [List.getElem?_eq_none (by rw [hok.len, List.length_replicate]; omega), List.getElem?_eq_none (by omega)]
theorem xFR {n : Nat} {M : Mod} (h : Inv n M) (hN : InvN M) (hR : RiseM M) (hn : n <= 1000000) : tkP (putM M) = some M := by
 have hl := h.len
 have hbl := h.bl
 have hfew := h.few
 have hok : ∀ p ∈ M.ob, OkT p := fun p hp => by
  have ho := h.obs p hp
  exact ⟨h.nms p hp, ho.d, hR.2 p hp, hN p hp, by have := ho.a; omega, ho.e, fun e he => h.good.pos e (List.mem_flatMap.2 ⟨p, hp, he⟩)⟩
 obtain ⟨hA, hS⟩ := xOQ h.good
 have hT := xFS M.ob [] M.bl (List.replicate M.fl.length true) [] (by simpa using hR.1) hok hA (by simpa using hl)
 have hflat : (srt (M.ob.map (·.1))).flatMap (putK M) = M.ob.flatMap fun p => putO (keyL p.1) p.2 := by
  rw [xE1 hR.1, List.flatMap_map]
  refine congrArg List.flatten (List.map_congr_left fun p hp => ?_)
  unfold putK
  rw [h.keys.get hp]
 obtain ⟨t2, ht2⟩ : ∃ t2, t2 = (M.ob.flatMap fun p => putO (keyL p.1) p.2) ++ [] := ⟨_, rfl⟩
 obtain ⟨t1, ht1⟩ : ∃ t1, t1 = numB M.ob.length ++ t2 := ⟨_, rfl⟩
 have e0 : putM M = numB M.fl.length ++ (flB M.bl ++ t1) := by
  unfold putM
  rw [hflat, ht1, ht2]
  simp
 have h1 := x49 M.fl.length (by omega) (flB M.bl ++ t1)
 have h2 := xOH M.bl hbl t1
 have h3 := x49 M.ob.length (by omega) t2
 obtain ⟨bs, hbs⟩ : ∃ bs, bs = putM M := ⟨_, rfl⟩
 rw [<- hbs] at e0 ⊢
 have q1 : (⟨bs, false⟩ : RD).num = M.fl.length := by rw [e0]; exact h1.1
 have q2 : (⟨bs, false⟩ : RD).take 8 = ⟨flB M.bl ++ t1, false⟩ := by rw [e0]; exact h1.2
 have q3 : flS ((⟨bs, false⟩ : RD).take 8) 8 = (⟨t1, false⟩, M.bl) := by rw [q2]; exact h2
 have q4 : (⟨t1, false⟩ : RD).num.toNat = M.ob.length := by rw [ht1, h3.1]; exact Int.toNat_natCast _
 have q5 : (⟨t1, false⟩ : RD).take 8 = ⟨t2, false⟩ := by rw [ht1]; exact h3.2
 have hT2 : tkN (flS ((⟨bs, false⟩ : RD).take 8) 8).1.num.toNat ((flS ((⟨bs, false⟩ : RD).take 8) 8).1.take 8) ⟨(flS ((⟨bs, false⟩ : RD).take 8) 8).2, List.replicate (⟨bs, false⟩ : RD).num.toNat true, []⟩ = some (M, ⟨[], false⟩) := by
  rw [q3, q1, Int.toNat_natCast]
  simp only
  rw [q4, q5, ht2, hT, hS]
  rfl
 exact xDU ⟨by omega, by omega⟩ hT2
theorem xFI {n : Nat} {M : Mod} (h : Inv n M) (hN : InvN M) (hR : RiseM M) (hn : n <= 1000000) : tkM (putM M) = some M := by
  exact xC8 (xFR h hN hR hn) rfl
end
section
open Go.RowKit Go.BigFrame
theorem xMN {w : World} {base n : Nat} {v : Value} {bs : List Nat} (h : Own w base v n bs) : ∃ A c, v = .slice A n c := by
 rcases h.2 with ⟨e, h0⟩ | ⟨g, c, cur, e, _⟩
 ·exact ⟨none, 0, by rw [e, h0]⟩
 ·exact ⟨_, c, e⟩
end
section
open Go.RowKit Go.BigFrame
theorem xJZ {w : World} {gs ms gp r c : Nat} {A : Option Addr} {bl fl : List Bool} {kv : KV} (h : StAt w gs ms gp r c A bl fl kv) {j : Nat} (hj : j < 8) (b : Bool) : StAt (w.setCell ⟨gs, 1 + j, none⟩ (.bool b)) gs ms gp r c A (bl.set j b) fl kv := by
 have hm : ms ≠ gs := h.map.ne_blk h.blk
 have hg : gp ≠ gs := h.sp.blk.ne_ h.blk (by decide)
 refine ⟨?_, by rw [List.length_set]; exact h.len, h.map.of (Below.heap_setCell _ _ _ _ hm), ⟨h.sp.blk.of (Below.heap_setCell _ _ _ _ hg), h.sp.cap, h.sp.lim, ?_⟩, h.ne⟩
 ·have := h.blk.set_ (1 + j) (.bool b)
  have e : (stC ms bl gp).setIfInBounds (1 + j) (.bool b) = stC ms (bl.set j b) gp := by
   have hl := h.len
   unfold stC
   rw [List.setIfInBounds_toArray, Nat.add_comm, List.set_cons_succ, List.set_append_left _ _ (by simp; omega), List.map_set]
  rwa [e] at this
 ·rcases h.sp.row with e | ⟨e, cs, hb, hc⟩
  ·exact .inl e
  ·exact .inr ⟨e, cs, hb.of (Below.heap_setCell _ _ _ _ (hb.ne_ h.blk (by decide))), hc⟩
theorem xPJ (s : RD) : ∀ k, (flS s k).2.length = 8
 | 0 => rfl
 | k + 1 => by rw [flS, List.length_set]; exact xPJ s k
theorem RD.flagTo_le (s : RD) : s.flagTo.bs.length <= s.bs.length := by
 unfold RD.flagTo
 split
 ·simp [RD.spoilt]
 ·exact RD.take_le _ _
theorem xIP (s : RD) : ∀ k, (flS s k).1.bs.length <= s.bs.length
 | 0 => Nat.le_refl _
 | k + 1 => Nat.le_trans (RD.flagTo_le _) (xIP s k)
def TakeTo2 (w : World) (Z : List Nat) (bs : List Nat) (e : Ending) (w' : World) : Prop :=
  Below w.heap.size w w' /\ ((tkM bs = none /\ e = .returned (.tuple #[.pointer none, errV 2])) ∨ ∃ M gs ms gp r c A kv, tkM bs = some M /\ e = .returned (.tuple #[.pointer (some ⟨gs, 0, none⟩), .nilIface]) /\ StoreAt w' (ms :: Z) gs ms gp r c A M kv /\ w.heap.size <= gs /\ w.heap.size <= ms /\ w.heap.size <= gp /\ (M.fl ≠ [] -> w.heap.size <= r))
set_option maxHeartbeats 16000000 in
theorem xGS {w : World} {Z : List Nat} (hZ0 : ∀ z ∈ Z, z < w.heap.size) {A : Option Addr} {c B : Nat} {bs : List Nat} (hb : Bytes w B A bs.length bs) (hn : bs.length <= 1000000) (hP : ∀ M, tkP bs = some M -> ∃ n, InvP n M /\ n <= 1000000 /\ (putM M).length <= 3000000) :
  Calls Tryz.prog 71 #[.slice A bs.length c] w (TakeTo2 w Z bs) := by
 have HR := kH (xHM A bs.length c bs w B (by omega) hb)
 have H0 := kH (kA hb hP)
 obtain ⟨N, hN⟩ : ∃ N, N = (⟨bs, false⟩ : RD).num := ⟨_, rfl⟩
 have hNr := x14 ⟨bs, false⟩
 rw [<- hN] at hNr
 have HNN := kH hN
 clear hb hP hN
 go_enter Tryz.func71, Tryz.ntmps71
 go_wp2_with fail
 refine HR.out.mono ?_
 rintro e w1 ⟨g, F, rfl, r1, b1⟩
 have HX := kH (x1P w1 w.heap.size F (some ⟨g, 0, none⟩) ⟨bs, false⟩ r1 b1.size)
 rw [<- HNN.out] at HX
 have hgF : g ∈ F := r1.head g (by simp [heads])
 have H1 := kH (kA r1 (kA b1 hgF))
 clear r1 b1 HR hgF
 go_wp2_with fail
 refine HX.out.mono ?_
 rintro e w2 ⟨rfl, F2, r2, o2, f2⟩
 have b2 : Below w.heap.size w w2 := H1.out.2.1.trans (o2.below (fun k hk => H1.out.1.over k (H1.out.1.head k hk)) H1.out.2.1.size)
 by_cases hok : 0 <= N /\ N <= 65536
 -- {K
 ·obtain ⟨m, rfl⟩ := Int.eq_ofNat_of_zero_le hok.1
  have HW := kH (xAS m (by omega) w2)
  have o12 := kH o2.size
  have H2 := kH (kA r2 (kA f2 b2))
  clear r2 o2 f2 b2 HX
  go_wp2_with fail
  refine HW.out.mono ?_
  rintro e w3 ⟨p, rfl, gs, ms, gp, r, c1, A1, rfl, hst, hgs, hms, hgp, hr, b3⟩
  obtain ⟨fl, hfl⟩ : ∃ fl, fl = List.replicate m true := ⟨_, rfl⟩
  rw [<- hfl] at hst
  have hfll : fl.length <= 65536 := by rw [hfl, List.length_replicate]; omega
  obtain ⟨s1, hs1⟩ : ∃ s1, s1 = (⟨bs, false⟩ : RD).take 8 := ⟨_, rfl⟩
  have hs1l : s1.bs.length <= 1000000 := by rw [hs1]; exact Nat.le_trans (RD.take_le _ _) hn
  rw [<- hs1] at H2
  have R3 := H2.out.1.below b3
  have hFl : ∀ k ∈ F, k < w2.heap.size := fun k hk => Nat.lt_of_lt_of_le (H1.out.1.under k hk) o12.out
  have hz2 := H2.out.2.2.size
  have hz3 := b3.size
  have B3 : Below w.heap.size w w3 := H2.out.2.2.trans (b3.mono hz2)
  have H3 := kH (kA hst (kA R3 (kA B3 (kA hFl (kA hfl hs1)))))
  have HB := kH (kA hgs (kA hms (kA hgp (kA hr (kA hz2 hz3)))))
  clear hst R3 B3 b3 hgs hms hgp hr hFl hfl HW hz2 hz3 hs1
  go_wp2_with fail
  go_loopw [19] (fun iv wr => ∃ (k : Nat) (Fk : List Nat), k <= 8 /\ iv = .int .i64 k /\ StAt wr gs ms gp r c1 A1 (flS s1 k).2 fl [] /\ Srd wr w.heap.size Fk (some ⟨g, 0, none⟩) (flS s1 k).1 /\ (∀ b ∈ Fk, b ∈ F) /\ Below w.heap.size w wr /\ w3.heap.size <= wr.heap.size) (fun iv _ => 8 - (intS iv).toNat)
  case atStart => exact ⟨0, F2, by omega, rfl, H3.out.1, H3.out.2.1, H2.out.2.1, H3.out.2.2.1, Nat.le_refl _⟩
  case round =>
   obtain ⟨k, Fk, hk, rfl, hSk, hRk, hFk, hBk, hzk⟩ := hrel
   have hwk : IntKind.i64.wrap ((k : Int) + 1) = (k : Int) + 1 := by rw [IntKind.wrap_i64]; omega
   by_cases hlt : k < 8
   -- {F
   ·have hk8 : (k : Int) < 8 := by omega
    have hdk : decide ((k : Int) < 8) = true := decide_eq_true hk8
    have RD0 : Srd wr.drew w.heap.size Fk (some ⟨g, 0, none⟩) (flS s1 k).1 := hRk.of (Nat.le_refl _) (fun _ _ => rfl)
    have HFL := kH (xEO wr.drew w.heap.size Fk (some ⟨g, 0, none⟩) (flS s1 k).1 RD0 hBk.size)
    have HK := kH (kA hSk (kA RD0 (kA hFk (kA hBk hzk))))
    clear hSk hRk hFk hBk hzk RD0
    go_upto_region 8 with (fail)
    refine x09 (fun _ => True) 99 (by kernel_rfl) ?_
    refine tS (i := 0) (v := .pointer (some ⟨gs, 0, none⟩)) rfl rfl (by kernel_rfl) (by rfl) (fun w hw => by kernel_rfl) trivial ?_
    simp only [Act.put, nB, nC, nD, nE, nF, nG]
    refine tS (i := 1) (v := .int .i64 (k : Int)) rfl rfl (by kernel_rfl) (by rfl) (fun w hw => by kernel_rfl) trivial ?_
    simp only [Act.put, nB, nC, nD, nE, nF, nG]
    refine tS (i := 2) (v := .pointer (some ⟨g, 0, none⟩)) rfl rfl (by kernel_rfl) (by rfl) (fun w hw => by kernel_rfl) trivial ?_
    simp only [Act.put, nB, nC, nD, nE, nF, nG]
    refine tS (i := 4) (v := .pointer (some ⟨gs, 0, none⟩)) rfl rfl (by kernel_rfl) (by rfl) (fun w hw => by kernel_rfl) trivial ?_
    simp only [Act.put, nB, nC, nD, nE, nF, nG]
    refine tS (i := 5) (v := .pointer (some ⟨gs, 1, none⟩)) rfl rfl (by kernel_rfl) (by rfl) (fun w hw => by go_simp) trivial ?_
    simp only [Act.put, nB, nC, nD, nE, nF, nG]
    refine x01 (j := 3) (by kernel_rfl) rfl (by rfl) ?_
    simp only [Act.put, nB, nC, nD, nE, nF, nG]
    refine x03 (by kernel_rfl) HFL.out ?_
    rintro e w4 ⟨rfl, F4, r4, o4, f4⟩
    have S4 : StAt w4 gs ms gp r c1 A1 (flS s1 k).2 fl [] := (HK.out.1.below (x08 (Below.refl _ _) 1)).rd o4 HK.out.2.1.readers
    refine ⟨_, rfl, trivial, ?_⟩
    simp only [Act.put, nB, nC, nD, nE, nF, nG]
    refine x01 (j := 6) (by kernel_rfl) rfl (by rfl) ?_
    simp only [Act.put, nB, nC, nD, nE, nF, nG]
    refine x0B (v := .pointer (some ⟨gs, 1 + k, none⟩)) (w' := w4) (by go_simp) ⟨trivial, ?_⟩
    simp only [Act.put, nB, nC, nD, nE, nF, nG]
    refine x01 (j := 7) (by kernel_rfl) rfl (by rfl) ?_
    simp only [Act.put, nB, nC, nD, nE, nF, nG]
    have hl8 := S4.len
    refine x2L 4 (.tmp 28) (.tmp 25) (by rfl) gs (1 + k) 122 _ (.bool (flS s1 k).1.flag) (by rfl) (by rfl) S4.blk (by simp [stC]; omega) (by kernel_rfl) rfl ?_
    refine ⟨trivial, ?_⟩
    simp only [Act.put, nB, nC, nD, nE, nF, nG]
    refine x0V (by kernel_rfl) ?_
    refine NoPanic.normal ?_
    obtain ⟨w5, hw5⟩ : ∃ w5, w5 = w4.setCell ⟨gs, 1 + k, none⟩ (.bool (flS s1 k).1.flag) := ⟨_, rfl⟩
    have S5 : StAt w5 gs ms gp r c1 A1 (flS s1 (k + 1)).2 fl [] := by rw [hw5]; exact xJZ S4 hlt _
    have o5 : Only [gs] w4 w5 := by rw [hw5]; exact (Only.refl _ _).setCell (.inl (by simp)) _
    have hF4 : ∀ b ∈ F4, b ∈ F := fun b hb => HK.out.2.2.1 b (f4 b hb)
    have R5 : Srd w5 w.heap.size F4 (some ⟨g, 0, none⟩) (flS s1 (k + 1)).1 := r4.of o5.size (fun b hb => o5.block b (r4.under b hb) (fun hm => by
     simp at hm
     have h1 := H3.out.2.2.2.1 b (hF4 b hb)
     have h2 := HB.out.1
     omega))
    have o4' : Only (heads (some ⟨g, 0, none⟩)) wr w4 := (Only.of_below (x08 (Below.refl wr.heap.size wr) 1) _).trans o4 (Fresh.refl _ _)
    have B5 : Below w.heap.size w w5 := (HK.out.2.2.2.1.trans (o4'.below (fun b hb => H1.out.1.over b (H1.out.1.head b hb)) HK.out.2.2.2.1.size)).trans (o5.below (fun b hb => by simp at hb; have h1 := HB.out.1; have h2 := HB.out.2.2.2.2.1; omega) (by have h1 := HK.out.2.2.2.1.size; have h2 := o4'.size; omega))
    have hz5 : w3.heap.size <= w5.heap.size := by have h1 := HK.out.2.2.2.2; have h2 := o4'.size; have h3 := o5.size; omega
    rw [<- hw5]
    have HFIN := kH (kA S5 (kA R5 (kA hF4 (kA B5 hz5))))
    clear S5 o5 R5 o4' B5 hz5 hw5 S4 hl8 r4 o4 f4 HFL hF4
    go_wp2_with fail
    go_roundw
    case rel => exact ⟨k + 1, F4, by omega, by go_num, HFIN.out⟩
    case measure => simp [intS]; omega
   -- F}
   ·obtain rfl : k = 8 := by omega
    obtain ⟨s8, hs8⟩ : ∃ s8, s8 = (flS s1 8).1 := ⟨_, rfl⟩
    obtain ⟨bl, hbl⟩ : ∃ bl, bl = (flS s1 8).2 := ⟨_, rfl⟩
    have hl8 : s8.bs.length <= 1000000 := by rw [hs8]; exact Nat.le_trans (xIP s1 8) hs1l
    rw [<- hbl] at hSk
    rw [<- hs8] at hRk
    have HX2 := kH (x1P wr w.heap.size Fk (some ⟨g, 0, none⟩) s8 hRk hBk.size)
    obtain ⟨N2, hN2⟩ : ∃ N2, N2 = s8.num := ⟨_, rfl⟩
    have hN2r := x14 s8
    rw [<- hN2] at HX2 hN2r
    have hmn : (⟨bs, false⟩ : RD).num.toNat = m := by rw [<- HNN.out]; exact Int.toNat_natCast m
    have HT : Hid (∀ R : Option (Mod × RD), tkN N2.toNat (s8.take 8) ⟨bl, fl, []⟩ = R -> tkN (flS ((⟨bs, false⟩ : RD).take 8) 8).1.num.toNat ((flS ((⟨bs, false⟩ : RD).take 8) 8).1.take 8) ⟨(flS ((⟨bs, false⟩ : RD).take 8) 8).2, List.replicate (⟨bs, false⟩ : RD).num.toNat true, []⟩ = R) := kH (fun R h => by
     rw [<- H3.out.2.2.2.2.2, <- hs8, <- hbl, <- hN2, hmn, <- H3.out.2.2.2.2.1]
     exact h)
    have H4 := kH (kA hSk (kA hRk (kA hFk (kA hBk hzk))))
    have ht8 := RD.take_le s8 8
    clear hSk hRk hFk hBk hzk hs8 hbl hN2 hmn
    go_wp2_with fail
    refine HX2.out.mono ?_
    rintro e w4 ⟨rfl, F4, r4, o4, f4⟩
    have S4 : StoreAt w4 (ms :: Z) gs ms gp r c1 A1 ⟨bl, fl, []⟩ [] := ⟨H4.out.1.rd o4 H4.out.2.1.readers, .nil⟩
    have hz4 := o4.size
    have B4 : Below w.heap.size w w4 := H4.out.2.2.2.1.trans (o4.below (fun b hb => H1.out.1.over b (H1.out.1.head b hb)) H4.out.2.2.2.1.size)
    have hF4 : ∀ b ∈ F4, b ∈ F := fun b hb => H4.out.2.2.1 b (f4 b hb)
    have H5 := kH (kA S4 (kA r4 (kA hF4 B4)))
    have hz34 : w3.heap.size <= w4.heap.size := Nat.le_trans H4.out.2.2.2.2 hz4
    clear S4 r4 o4 f4 B4 hF4 HX2 hz4
    go_wp2_with fail
    go_loopw [32] (fun iv wr => ∃ (k : Nat) (M : Mod) (sk : RD) (kvk : KV) (Fk : List Nat), iv = .int .i64 k /\ (k = 0 ∨ (k : Int) <= N2) /\ tkN N2.toNat (s8.take 8) ⟨bl, fl, []⟩ = tkN (N2.toNat - k) sk M /\ StoreAt wr (ms :: Z) gs ms gp r c1 A1 M kvk /\ Srd wr w.heap.size Fk (some ⟨g, 0, none⟩) sk /\ (∀ b ∈ Fk, b ∈ F) /\ Below w.heap.size w wr /\ M.fl.length = fl.length /\ M.ob.length + sk.bs.length <= 1000000 /\ w3.heap.size <= wr.heap.size) (fun iv _ => N2.toNat - (intS iv).toNat)
    case atStart => exact ⟨0, _, _, _, F4, rfl, .inl rfl, rfl, H5.out.1, H5.out.2.1, H5.out.2.2.1, H5.out.2.2.2, rfl, by simp; omega, hz34⟩
    case round =>
     obtain ⟨k, M, sk, kvk, Fk, rfl, hk, htk, hSk, hRk, hFk, hBk, hfk, hcnt, hzk⟩ := hrel
     by_cases hlt : (k : Int) < N2
     -- {G
     ·have hdk : decide ((k : Int) < N2) = true := decide_eq_true hlt
      have hwk : IntKind.i64.wrap ((k : Int) + 1) = (k : Int) + 1 := by rw [IntKind.wrap_i64]; omega
      obtain ⟨j, hj⟩ : ∃ j, N2.toNat - k = j + 1 := ⟨N2.toNat - k - 1, by omega⟩
      have hj2 : N2.toNat - (k + 1) = j := by omega
      rw [hj] at htk
      have hFf : ∀ b ∈ Fk, b ∉ ms :: foot gp r M.fl := fun b hb hm => by
       have h1 := H3.out.2.2.2.1 b (hFk b hb)
       have h2 := HB.out
       rcases List.mem_cons.1 hm with e | hm
       ·omega
       ·rcases x1Q hm with e | ⟨_, e⟩ <;> omega
      have HTK := kH (xJ7 hSk (by simp) (fun z hz => by
       rcases List.mem_cons.1 hz with e | hz
       ·rw [e]; exact hSk.st.map.lt
       ·have h1 := hZ0 z hz; have h2 := hBk.size; omega) hRk hBk.size (by omega) (by omega) hFf)
      have HK := kH (kA htk (kA hSk (kA hRk (kA hFk (kA hBk (kA hfk (kA hcnt (kA hzk hj2))))))))
      clear htk hSk hRk hFk hBk hfk hcnt hzk hj hj2 hFf
      go_wp2_with fail
      refine HTK.out.mono ?_
      rintro e w5 ⟨ho5, hcase⟩
      have B5 : Below w.heap.size w w5 := HK.out.2.2.2.2.1.trans (ho5.below (fun b hb => by
       have h2 := HB.out
       rcases List.mem_cons.1 hb with e | hb
       ·rw [e]; exact H1.out.1.over g H1.out.2.2
       ·rcases List.mem_cons.1 hb with e | hb
        ·omega
        ·rcases x1Q hb with e | ⟨_, e⟩ <;> omega) HK.out.2.2.2.2.1.size)
      rcases hcase with ⟨hn5, rfl⟩ | ⟨M', s', kv', F', hsome, rfl, S5, R5, f5, hfl5, hob5, hbs5⟩
      ·have hnone : tkM bs = none := xDD (xNH (HT.out _ (HK.out.1.trans (xMF hn5))))
       have HFIN := kH (show TakeTo2 w Z bs (.returned (.tuple #[.pointer none, errV 2])) w5 from ⟨B5, .inl ⟨hnone, rfl⟩⟩)
       simp only [errV] at HFIN
       clear hnone hn5 B5 ho5 HTK
       go_wp2
       go_ret2
       exact HFIN.out
      ·have htk5 : tkN N2.toNat (s8.take 8) ⟨bl, fl, []⟩ = tkN (N2.toNat - (k + 1)) s' M' := by rw [HK.out.1, HK.out.2.2.2.2.2.2.2.2]; exact xE0 hsome
       have hz5 := ho5.size
       have HFIN := kH (kA htk5 (kA S5 (kA R5 (kA (show ∀ b ∈ F', b ∈ F from fun b hb => HK.out.2.2.2.1 b (f5 b hb)) (kA B5 (kA (hfl5.trans HK.out.2.2.2.2.2.1) (kA (show M'.ob.length + s'.bs.length <= 1000000 by have := HK.out.2.2.2.2.2.2.1; omega) (show w3.heap.size <= w5.heap.size by have := HK.out.2.2.2.2.2.2.2.1; omega))))))))
       clear htk5 S5 R5 f5 hfl5 hob5 hbs5 B5 ho5 hsome HTK hz5
       go_wp2_with fail
       go_roundw
       case rel => exact ⟨k + 1, M', s', kv', F', by go_num, .inr (by omega), HFIN.out⟩
       case measure => simp [intS]; omega
     -- G}
     -- {H
     ·have hdk : decide ((k : Int) < N2) = false := decide_eq_false hlt
      have hj : N2.toNat - k = 0 := by omega
      rw [hj] at htk
      have htp : tkP bs = some M := xDU ⟨by rw [<- HNN.out]; exact hok.1, by rw [<- HNN.out]; exact hok.2⟩ (HT.out _ (htk.trans rfl))
      obtain ⟨n9, hI, hn9, hlen9⟩ := H0.out.2 M htp
      have HPUT := kH (xG0 hSk hI hn9 hlen9)
      have HK := kH (kA htp (kA hSk hBk))
      have HLN := kH (Nat.le_trans hlen9 (by decide : 3000000 <= 9000000))
      clear htk hSk hRk hFk hBk hfk hcnt hzk hj hI htp hlen9
      go_wp2_with fail
      refine HPUT.out.mono ?_
      rintro e w5 ⟨v, rfl, hv, b5, hsm⟩
      obtain ⟨Av, cv, rfl⟩ := xMN hv
      have B5 : Below w.heap.size w w5 := HK.out.2.2.trans (b5.mono HK.out.2.2.size)
      have hEQ := x7E Av A (putM M).length bs.length cv c _ _ (putM M) bs w5 (hv.bytes hsm) (H0.out.1.since B5)
      have HEQ := kH hEQ
      have S5 := HK.out.2.1.below b5
      have H6 := kH (kA B5 S5)
      clear hEQ hv b5 hsm B5 S5 HPUT
      generalize (putM M).length = np at *
      go_wp2_with fail
      refine HEQ.out.mono ?_
      rintro e w6 ⟨rfl, rfl⟩
      by_cases hpe : putM M = bs
      ·have hbe : (putM M == bs) = true := by rw [hpe]; exact beq_self_eq_true bs
       have hfl : M.fl ≠ [] -> w.heap.size <= r := fun _ => by have := HB.out; omega
       have HFIN := kH (show TakeTo2 w Z bs (.returned (.tuple #[.pointer (some ⟨gs, 0, none⟩), .nilIface])) w5 from ⟨H6.out.1, .inr ⟨M, gs, ms, gp, r, c1, A1, kvk, xC8 HK.out.1 hpe, rfl, H6.out.2, by have := HB.out; omega, by have := HB.out; omega, by have := HB.out; omega, hfl⟩⟩)
       generalize (putM M == bs) = q at *
       subst hbe
       clear hfl HEQ hpe
       go_wp2
       go_ret2
       exact HFIN.out
      ·have hbe : (putM M == bs) = false := by simpa using hpe
       have HFIN := kH (show TakeTo2 w Z bs (.returned (.tuple #[.pointer none, errV 2])) w5 from ⟨H6.out.1, .inl ⟨xP9 HK.out.1 hpe, rfl⟩⟩)
       simp only [errV] at HFIN
       generalize (putM M == bs) = q at *
       subst hbe
       clear HEQ hpe
       go_wp2
       go_ret2
       exact HFIN.out
     -- H}
 -- K}
 -- {J
 ·have HW := kH (xIN N (by omega) w2)
  simp only [errV] at HW
  have hnone : tkM bs = none := xDD (xMC (by rw [<- HNN.out]; exact hok))
  have HFIN := kH (show TakeTo2 w Z bs (.returned (.tuple #[.pointer none, errV 2])) w2 from ⟨b2, .inl ⟨hnone, rfl⟩⟩)
  simp only [errV] at HFIN
  clear r2 o2 f2 b2 HX hnone
  go_wp2_with fail
  refine HW.out.mono ?_
  rintro e w3 ⟨rfl, rfl⟩
  go_wp2
  go_ret2
  exact HFIN.out
 -- J}
end
section
open Go.RowKit Go.BigFrame
theorem Odd.mapAt {w : World} {e : TypeId} {k : Nat} {f : Int -> Option Value} (h : MapAt w k f) : Odd w e k := fun cs hb => h.ne_blk hb rfl
section
variable {w0 w w' : World} {g gj n gen u c : Nat} {d : DM} {st : List Nat} {txs : List (List Nat)} {F : List Nat} {A : Option Addr} {vt : Value} {us : List Value}
theorem JX.odd (h : JX w0 w g gj d n gen st txs u F A c vt us) {t : TypeId} (h1 : 176 ≠ t) (h2 : 35 ≠ t) (h3 : 106 ≠ t) (h4 : 208 ≠ t) : ∀ k ∈ jf gj vt F, Odd w t k := fun k hk => by
 unfold jf at hk
 rw [List.mem_cons, List.mem_append] at hk
 obtain ⟨gm, v, rfl, hl⟩ := h.disk
 rcases hk with rfl | hk | hk
 ·exact Odd.blk h.jb h1
 ·obtain ⟨cs, hb⟩ := x0G h.tx.1 (x00.1 hk)
  exact Odd.blk hb h2
 ·simp only [List.mem_cons] at hk
  rcases hk with rfl | rfl | hk
  ·exact Odd.blk hl.blk h3
  ·obtain ⟨f, hm, _⟩ := hl.map
   exact Odd.mapAt hm
  ·obtain ⟨cs, hb⟩ := x0G hl.row (x00.1 hk)
   exact Odd.blk hb h4
end
section
variable {w w' : World} {Z : List Nat} {gs ms gp r c : Nat} {A : Option Addr} {M : Mod} {kv : KV}
def OffS (w : World) (k : Nat) : Prop := Odd w 122 k /\ Odd w 137 k /\ Odd w 5 k /\ Odd w 198 k /\ Odd w 190 k /\ Odd w 4 k
theorem StoreAt.past {G : List Nat} (h : StoreAt w Z gs ms gp r c A M kv) (ho : Only G w w') (hZ : ∀ k ∈ G, k ∈ Z /\ k ≠ ms) (hO : ∀ k ∈ G, OffS w k) : StoreAt w' Z gs ms gp r c A M kv := by
 refine ⟨h.st.off ho (fun k hk => ⟨fun e => (hO k hk).1 _ (e ▸ h.st.blk), (hZ k hk).2, fun hf => ?_⟩), h.obs.imp fun p q hr => ⟨hr.1, ?_⟩⟩
 ·rcases x1Q hf with rfl | ⟨hf2, rfl⟩
  ·exact (hO _ hk).2.2.2.2.1 _ h.st.sp.blk
  ·rcases h.st.sp.row with e | ⟨_, cs, hb, _⟩
   ·exact absurd e hf2
   ·exact (hO _ hk).2.2.2.2.2 _ hb
 ·obtain ⟨go, mb, c1, ce, D, E, kv1, e, hmb, hat⟩ := hr.2
  exact ⟨go, mb, c1, ce, D, E, kv1, e, hmb, hat.only ho (fun k hk _ => ⟨(hO k hk).2.1, (hO k hk).2.2.1, (hO k hk).2.2.2.1⟩) (fun hm => hmb (hZ _ hm).1)⟩
end
theorem JX.offS {w0 w : World} {g gj n gen u c : Nat} {d : DM} {st : List Nat} {txs : List (List Nat)} {F : List Nat} {A : Option Addr} {vt : Value} {us : List Value} (h : JX w0 w g gj d n gen st txs u F A c vt us) : ∀ k ∈ jf gj vt F, OffS w k := fun k hk =>
  ⟨h.odd (by decide) (by decide) (by decide) (by decide) k hk, h.odd (by decide) (by decide) (by decide) (by decide) k hk, h.odd (by decide) (by decide) (by decide) (by decide) k hk, h.odd (by decide) (by decide) (by decide) (by decide) k hk, h.odd (by decide) (by decide) (by decide) (by decide) k hk, h.odd (by decide) (by decide) (by decide) (by decide) k hk⟩
structure JS where
 f : Int -> Sec
 s : Nat
 gen : Nat
 st : List Nat
 txs : List (List Nat)
 u : Nat
 b : Bool
 l : Nat
structure PX where
 gq : Nat
 g : Nat
 gj : Nat
 A : Option Addr
 c : Nat
 vt : Value
 us : List Value
 F : List Nat
 gs : Nat
 ms : Nat
 gp : Nat
 r : Nat
 cs : Nat
 As : Option Addr
 kv : KV
 Z : List Nat
structure JSo (w0 w : World) (n : Nat) (x : PX) (J : JS) (M : Mod) : Prop where
 jx : JX w0 w x.g x.gj (DM.up J.b n J.f J.s J.l) n J.gen J.st J.txs J.u x.F x.A x.c x.vt x.us
 so : StoreAt w x.Z x.gs x.ms x.gp x.r x.cs x.As M x.kv
 nw : ∀ k ∈ x.ms :: foot x.gp x.r M.fl, w0.heap.size <= k
 gsN : w0.heap.size <= x.gs
 zj : ∀ k ∈ jf x.gj x.vt x.F, k ∈ x.Z /\ k ≠ x.ms
 zm : x.ms ∈ x.Z
 zu : ∀ z ∈ x.Z, z < w.heap.size
theorem JSo.below {w0 w w' : World} {n : Nat} {x : PX} {J : JS} {M : Mod} (h : JSo w0 w n x J M) (hb : Below w.heap.size w w') : JSo w0 w' n x J M :=
  ⟨h.jx.below hb, h.so.below hb, h.nw, h.gsN, h.zj, h.zm, fun z hz => Nat.lt_of_lt_of_le (h.zu z hz) hb.size⟩
theorem JSo.noted {w0 w w' : World} {n : Nat} {x : PX} {J J' : JS} {M : Mod} {F' : List Nat} {A' : Option Addr} {c' : Nat} {vt' : Value} {us' : List Value} (h : JSo w0 w n x J M) (hj : JX w0 w' x.g x.gj (DM.up J'.b n J'.f J'.s J'.l) n J'.gen J'.st J'.txs J'.u F' A' c' vt' us') (ho : Only (jf x.gj x.vt x.F) w w') (hf : Fresh w (jf x.gj x.vt x.F) (jf x.gj vt' F')) :
  JSo w0 w' n {x with F := F', A := A', c := c', vt := vt', us := us', Z := jf x.gj vt' F' ++ x.Z} J' M := by
 have hs := h.so.st.map.lt
 refine ⟨hj, (h.so.wide (Z' := jf x.gj vt' F' ++ x.Z) (Below.refl _ _) (fun z hz => ?_)).past ho (fun k hk => ⟨List.mem_append_right _ (h.zj k hk).1, (h.zj k hk).2⟩) h.jx.offS, h.nw, h.gsN, fun k hk => ⟨List.mem_append_left _ hk, ?_⟩, List.mem_append_right _ h.zm, fun z hz => ?_⟩
 ·rcases List.mem_append.1 hz with hz | hz
  ·rcases hf z hz with h1 | h1
   ·exact .inl (h.zj z h1).1
   ·exact .inr h1
  ·exact .inl hz
 ·rcases hf k hk with h1 | h1
  ·exact (h.zj k h1).2
  ·show k ≠ x.ms
   omega
 ·rcases List.mem_append.1 hz with hz | hz
  ·exact hj.under z hz
  ·exact Nat.lt_of_lt_of_le (h.zu z hz) ho.size
theorem JSo.swap {w0 w w' : World} {n : Nat} {x : PX} {J : JS} {M M' : Mod} {gs ms gp r cs : Nat} {As : Option Addr} {kv : KV} {Z : List Nat} (h : JSo w0 w n x J M) (hb : Below w.heap.size w w') (hso : StoreAt w' Z gs ms gp r cs As M' kv) (hZ : ∀ z ∈ x.Z, z ∈ Z) (hm : ms ∈ Z) (hu : ∀ z ∈ Z, z < w'.heap.size) (hn : ∀ k ∈ ms :: foot gp r M'.fl, w.heap.size <= k) (hg : w.heap.size <= gs) :
  JSo w0 w' n {x with gs := gs, ms := ms, gp := gp, r := r, cs := cs, As := As, kv := kv, Z := Z} J M' := by
 have hs := h.jx.bel.size
 refine ⟨h.jx.below hb, hso, fun k hk => Nat.le_trans hs (hn k hk), Nat.le_trans hs hg, fun k hk => ⟨hZ k (h.zj k hk).1, ?_⟩, hm, hu⟩
 have h1 := h.jx.under k hk
 have h2 := hn ms (by simp)
 show k ≠ ms
 omega
end
section
open Go.RowKit Go.BigFrame
def stepB (x : StepV) : List Nat := numB x.kd ++ (numB x.at_ ++ (numB x.ln ++ (sttxB x.nm ++ sttxB x.dt)))
def opB (nm : List Nat) (xs : List StepV) : List Nat := 1 :: (sttxB nm ++ (numB (xs.length : Nat) ++ xs.flatMap stepB))
structure StepOk (x : StepV) : Prop where
 kd : -9223372036854775808 <= x.kd /\ x.kd <= 9223372036854775807
 at_ : -9223372036854775808 <= x.at_ /\ x.at_ <= 9223372036854775807
 ln : -9223372036854775808 <= x.ln /\ x.ln <= 9223372036854775807
 nm : x.nm.length <= 1000000 /\ Small x.nm
 dt : x.dt.length <= 1000000 /\ Small x.dt
theorem xKE (x : StepV) : (stepB x).length = 40 + x.nm.length + x.dt.length := by
 simp [stepB, x1B, x04]
 omega
theorem xAC (nm : List Nat) (xs : List StepV) : (opB nm xs).length = 17 + nm.length + (xs.map fun x => 40 + x.nm.length + x.dt.length).sum := by
 simp [opB, x1B, x04, x6N, xKE]
 omega
theorem x77 {bs : List Nat} (h : Small bs) : Small (sttxB bs) := fun b hb => by
 unfold sttxB at hb
 rcases List.mem_append.1 hb with hb | hb
 ·exact x0Z _ b hb
 ·exact h b hb
theorem Small.app {a b : List Nat} (ha : Small a) (hb : Small b) : Small (a ++ b) := fun x hx => by
 rcases List.mem_append.1 hx with hx | hx
 ·exact ha x hx
 ·exact hb x hx
theorem xER {x : StepV} (h1 : Small x.nm) (h2 : Small x.dt) : Small (stepB x) :=
  Small.app (x0Z _) (Small.app (x0Z _) (Small.app (x0Z _) (Small.app (x77 h1) (x77 h2))))
theorem xB0 {nm : List Nat} {xs : List StepV} (h : Small nm) (hx : ∀ x ∈ xs, Small x.nm /\ Small x.dt) : Small (opB nm xs) := fun b hb => by
 unfold opB at hb
 rcases List.mem_cons.1 hb with rfl | hb
 ·omega
 ·refine Small.app (x77 h) (Small.app (x0Z _) (fun c hc => ?_)) b hb
  obtain ⟨x, hx1, hx2⟩ := List.mem_flatMap.1 hc
  exact xER (hx x hx1).1 (hx x hx1).2 c hx2
theorem xP1 (b : Nat) (rest : List Nat) : (⟨b :: rest, false⟩ : RD).byte = b /\ (⟨b :: rest, false⟩ : RD).take 1 = ⟨rest, false⟩ := by
 have h := x7Q [b] rest
 simp only [List.length_singleton, List.singleton_append] at h
 have h1 : (⟨b :: rest, false⟩ : RD).got 1 = [b] := h.2
 have h2 : (⟨b :: rest, false⟩ : RD).take 1 = ⟨rest, false⟩ := h.1
 refine ⟨?_, h2⟩
 unfold RD.byte
 rw [h1]
 rfl
theorem xJI (x : StepV) (rest : List Nat) : stepB x ++ rest = numB x.kd ++ (numB x.at_ ++ (numB x.ln ++ (sttxB x.nm ++ (sttxB x.dt ++ rest)))) := by
  simp [stepB, List.append_assoc]
theorem xP8 (nm : List Nat) (xs : List StepV) : opB nm xs = 1 :: (sttxB nm ++ (numB (xs.length : Nat) ++ xs.flatMap stepB)) := rfl
def lastB (x : StepV) : Bool := decide (6 <= x.kd) && decide (x.kd <= 12)
noncomputable def appJ (n : Nat) (J : JS) (tx : List Nat) : JS × Nat :=
 if logOf n - J.u < pn tx + 1 then (J, 4)
 else if J.b = true /\ J.l < pn tx + 3 then (J, 3)
 else ({J with f := appF n J.f J.gen J.u tx, s := J.s + pn tx + 3, txs := J.txs ++ [tx], u := J.u + pn tx + 1, l := if J.b then J.l - (pn tx + 3) else J.l}, 0)
noncomputable def ckptJ (n : Nat) (J : JS) (st : List Nat) : JS × Nat :=
 if areaOf n < pn st then (J, 4)
 else if J.b = true /\ J.l < pn st + 3 then (J, 3)
 else ({J with f := ckptF n J.f (J.gen + 1) st, s := J.s + pn st + 3, gen := J.gen + 1, st := st, txs := [], u := 0, l := if J.b then J.l - (pn st + 3) else J.l}, 0)
noncomputable def noteJ (n : Nat) (J : JS) (st tx : List Nat) : JS × Nat :=
  if logOf n - J.u < needOf tx.length then (if (ckptJ n J st).2 = 0 then appJ n (ckptJ n J st).1 tx else ckptJ n J st) else appJ n J tx
theorem xP6 {n gen u : Nat} {st : List Nat} {txs : List (List Nat)} {J : JS} {tx : List Nat} (h8 : 8 <= n) (hf : u + pn tx + 1 <= logOf n) (hl : ¬ (J.b = true /\ J.l < pn tx + 3)) (h : JFine J.f n gen st txs u) (hne : tx ≠ []) (h256 : ∀ b ∈ tx, b < 256) (hlen : tx.length <= 20000) : (DM.up J.b n J.f J.s J.l).app n gen u tx = (DM.up J.b n (appF n J.f gen u tx) (J.s + pn tx + 3) (if J.b then J.l - (pn tx + 3) else J.l), 0) := by
 cases hb : J.b with
 | false => exact xLS n J.s J.l gen u J.f tx h8 hf
 | true =>
  have h1 : pn tx + 3 <= J.l := Nat.le_of_not_lt fun h => hl ⟨hb, h⟩
  exact (xMW (s := J.s) (l := J.l) h hne h256 hlen hf).1 h1
theorem xP3 {n gen u : Nat} {st : List Nat} {txs : List (List Nat)} {J : JS} {st' : List Nat} (h8 : 8 <= n) (hf : pn st' <= areaOf n) (hl : ¬ (J.b = true /\ J.l < pn st' + 3)) (h : JFine J.f n gen st txs u) (h256 : ∀ b ∈ st', b < 256) (hlen : st'.length <= 20000) (hg : gen + 1 <= 4611686018427387000) : (DM.up J.b n J.f J.s J.l).ckpt n (gen + 1) st' = (DM.up J.b n (ckptF n J.f (gen + 1) st') (J.s + pn st' + 3) (if J.b then J.l - (pn st' + 3) else J.l), 0) := by
 cases hb : J.b with
 | false => exact xAP n J.s J.l (gen + 1) J.f st' h8 hf
 | true =>
  have h1 : pn st' + 3 <= J.l := Nat.le_of_not_lt fun h => hl ⟨hb, h⟩
  exact (xIF (s := J.s) (l := J.l) h h256 hlen hf hg).1 h1
theorem xKC {b : Bool} {n s l m : Nat} {f : Int -> Sec} (h1 : s + m < 4611686018427387904) (h2 : l <= 9223372036854775807) (h3 : m <= 1000000) : Far (DM.up b n f s l) m := ⟨h1, h2, by simpa [DM.up] using h3⟩
end
section
open Go.RowKit Go.BigFrame
def Txa (base : World) (g : Nat) (bs : List Nat) (P : List Nat) (w : World) : Prop := ∃ F, Wr w base.heap.size F (some ⟨g, 0, none⟩) bs /\ Below base.heap.size base w /\ ∀ k ∈ P, k < w.heap.size /\ k ∉ F
theorem Txa.to {base w w' : World} {g : Nat} {bs bs' P F : List Nat} (h1 : Below base.heap.size base w) (hW : Wr w base.heap.size F (some ⟨g, 0, none⟩) bs) (h2 : ∀ k ∈ P, k < w.heap.size /\ k ∉ F) (h : WTo w base.heap.size F (some ⟨g, 0, none⟩) bs' w') : Txa base g bs' P w' /\ ∀ k ∈ P, w'.heap[k]? = w.heap[k]? := by
 obtain ⟨F', h3, h4, h5⟩ := h
 refine ⟨⟨F', h3, h1.trans (h4.below hW.over h1.size), fun k hk => ⟨Nat.lt_of_lt_of_le (h2 k hk).1 h4.size, fun hm => ?_⟩⟩, fun k hk => h4.block k (h2 k hk).1 (h2 k hk).2⟩
 rcases h5 k hm with h6 | h6
 ·exact (h2 k hk).2 h6
 ·have := (h2 k hk).1; omega
theorem Txa.mono {base w : World} {g : Nat} {bs P P' : List Nat} (h : Txa base g bs P w) (hP : ∀ k ∈ P', k ∈ P) : Txa base g bs P' w := by
 obtain ⟨F, h1, h2, h3⟩ := h
 exact ⟨F, h1, h2, fun k hk => h3 k (hP k hk)⟩
theorem Txa.alloc {base w : World} {g : Nat} {bs P : List Nat} (h : Txa base g bs P w) (o : Obj) : Txa base g bs (w.heap.size :: P) (w.alloc o) := by
 obtain ⟨F, h1, h2, h3⟩ := h
 refine ⟨F, h1.below (x06 _ _), h2.alloc h2.size _, fun k hk => ?_⟩
 rcases List.mem_cons.1 hk with rfl | hk
 ·exact ⟨by simp, fun hm => by have := h1.under _ hm; omega⟩
 ·exact ⟨by have := (h3 k hk).1; simp; omega, (h3 k hk).2⟩
theorem Txa.num {base w : World} {g : Nat} {bs P : List Nat} (h : Txa base g bs P w) (n : Int) (hl : bs.length <= 9000000) :
  Calls Tryz.prog 56 #[.pointer (some ⟨g, 0, none⟩), .int .i64 n] w fun e w' => e = .returned (.tuple #[]) /\ Txa base g (bs ++ numB n) P w' /\ ∀ k ∈ P, w'.heap[k]? = w.heap[k]? := by
 obtain ⟨F, h1, h2, h3⟩ := h
 exact (x1C w _ F _ bs n h1 hl h2.size).mono fun e w' ⟨e1, e2⟩ => ⟨e1, Txa.to h2 h1 h3 e2⟩
theorem Txa.byte {base w : World} {g : Nat} {bs P : List Nat} (h : Txa base g bs P w) (b : Nat) (hb : b < 256) (hl : bs.length <= 9000000) :
  Calls Tryz.prog 159 #[.pointer (some ⟨g, 0, none⟩), .int .u8 b] w fun e w' => e = .returned (.tuple #[]) /\ Txa base g (bs ++ [b]) P w' /\ ∀ k ∈ P, w'.heap[k]? = w.heap[k]? := by
 obtain ⟨F, h1, h2, h3⟩ := h
 exact (x6H w _ F _ bs b h1 hl h2.size hb).mono fun e w' ⟨e1, e2⟩ => ⟨e1, Txa.to h2 h1 h3 e2⟩
theorem Txa.text {base w : World} {g : Nat} {bs P : List Nat} (h : Txa base g bs P w) (nm : List Nat) (hs : Small nm) (hl : bs.length + nm.length <= 8000000) :
  Calls Tryz.prog 102 #[.pointer (some ⟨g, 0, none⟩), .string (strOf nm)] w fun e w' => e = .returned (.tuple #[]) /\ Txa base g (bs ++ sttxB nm) P w' /\ ∀ k ∈ P, w'.heap[k]? = w.heap[k]? := by
 obtain ⟨F, h1, h2, h3⟩ := h
 exact (x6B w _ F _ bs nm h1 hs hl h2.size).mono fun e w' ⟨e1, e2⟩ => ⟨e1, Txa.to h2 h1 h3 e2⟩
theorem Txa.bytes {base w : World} {g B c : Nat} {D : Option Addr} {bs P : List Nat} (h : Txa base g bs P w) (dt : List Nat) (hd : Bytes w B D dt.length dt) (hB : B <= base.heap.size) (hl : bs.length + dt.length <= 8000000) :
  Calls Tryz.prog 103 #[.pointer (some ⟨g, 0, none⟩), .slice D dt.length c] w fun e w' => e = .returned (.tuple #[]) /\ Txa base g (bs ++ sttxB dt) P w' /\ ∀ k ∈ P, w'.heap[k]? = w.heap[k]? := by
 obtain ⟨F, h1, h2, h3⟩ := h
 refine (x62 w _ F _ bs dt B D dt.length c h1 hd (fun a ha h0 hm => ?_) hl h2.size).mono fun e w' ⟨e1, e2⟩ => ⟨e1, Txa.to h2 h1 h3 e2⟩
 have h4 := h1.over _ hm
 obtain ⟨a', e', h5, _⟩ := hd.1.2 h0
 rw [ha] at e'
 injection e' with e'
 subst e'
 omega
def chC (k : Nat) (nm : List Nat) (As : Option Addr) (n cs : Nat) (cl : Int) : Array Value := #[.int .u8 k, .string (strOf nm), .slice As n cs, .int .i64 cl]
theorem x5R {α : Type} {l : List α} {k : Nat} {a : α} (h : l[k]? = some a) : l.take (k + 1) = l.take k ++ [a] := by rw [List.take_add_one, h]; rfl
def partT (nm : List Nat) (xs : List StepV) (k : Nat) : List Nat := 1 :: (sttxB nm ++ (numB (xs.length : Nat) ++ (xs.take k).flatMap stepB))
theorem xK9 (nm : List Nat) (xs : List StepV) : partT nm xs xs.length = opB nm xs := by unfold partT opB; rw [List.take_length]
theorem xHL {nm : List Nat} {xs : List StepV} {k : Nat} {x : StepV} (h : xs[k]? = some x) : partT nm xs (k + 1) = partT nm xs k ++ numB x.kd ++ numB x.at_ ++ numB x.ln ++ sttxB x.nm ++ sttxB x.dt := by
 unfold partT
 rw [x5R h, List.flatMap_append]
 simp [stepB, List.append_assoc]
theorem xM0 (nm : List Nat) (xs : List StepV) (k : Nat) : (partT nm xs k).length <= (opB nm xs).length := by
 have h : (opB nm xs) = partT nm xs k ++ (xs.drop k).flatMap stepB := by
  unfold opB partT
  conv => lhs; rw [<- List.take_append_drop k xs, List.flatMap_append]
  simp [List.append_assoc]
 rw [h, List.length_append]
 omega
set_option maxHeartbeats 8000000 in
theorem xFE {w : World} {B cs : Nat} {As : Option Addr} {l : List SV} (nm : List Nat) (hsm : Small nm) (hnm : nm.length <= 1000000) (hl : StepsR w B As l) (hB : B <= w.heap.size) (hll : l.length <= 1000000) (hlen : (opB nm (l.map SV.x)).length <= 3000000) :
  Calls Tryz.prog 109 #[.agg (chC 1 nm As l.length cs 0)] w fun e w' => ∃ v, e = .returned v /\ Own w' w.heap.size v (opB nm (l.map SV.x)).length (opB nm (l.map SV.x)) /\ Below w.heap.size w w' := by
 obtain ⟨w1, hw1⟩ : ∃ w1, w1 = w.alloc (.cells (chC 1 nm As l.length cs 0) 128) := ⟨_, rfl⟩
 have hb1 : Below w.heap.size w w1 := by rw [hw1]; exact x06 _ _
 have K1 : Blk w1 w.heap.size 128 (chC 1 nm As l.length cs 0) := by rw [hw1]; exact Blk.new _ _ _
 obtain ⟨w2, hw2⟩ : ∃ w2, w2 = w1.alloc (.cells #[.slice none 0 0] 117) := ⟨_, rfl⟩
 obtain ⟨g, hg⟩ : ∃ g, g = w1.heap.size := ⟨_, rfl⟩
 have hb2 : Below w1.heap.size w1 w2 := by rw [hw2]; exact x06 _ _
 have K2 : Blk w2 g 117 #[.slice none 0 0] := by rw [hw2, hg]; exact Blk.new _ _ _
 have hT2 : Txa w1 g [] [] w2 := ⟨[g], .inr ⟨g, rfl, .slice none 0 0, by simp [rowOf, Value.ownBlock], K2, ⟨rfl, .inl ⟨rfl, rfl⟩⟩, by omega, fun b hb => by cases hb⟩, hb2, fun k hk => by cases hk⟩
 have HC : Hid (∀ w', Below w1.heap.size w1 w' -> w'.cell? ⟨w.heap.size, 0, none⟩ = some (.int .u8 1) /\ w'.cell? ⟨w.heap.size, 1, none⟩ = some (.string (strOf nm)) /\ w'.cell? ⟨w.heap.size, 2, none⟩ = some (.slice As l.length cs)) := kH fun w' hb => by
  have hk := K1.of (hb.block _ K1.lt)
  exact ⟨hk.cell 0, hk.cell 1, hk.cell 2⟩
 have HW1 := kH hw1
 have HW2 := kH hw2
 have HG := kH hg
 have HB1 := kH hb1
 have HB2 := kH hb2
 have HL := kH hl
 have HLEN := kH hlen
 have hnl : nm.length + 17 <= 3000000 := by rw [xAC] at hlen; omega
 have HT := kH hT2
 obtain ⟨c0, c1, c2⟩ := HC.out w2 hb2
 clear hw1 hb1 K1 hw2 hg hb2 K2 hT2 hl hlen
 go_enter Tryz.func109, Tryz.ntmps109
 go_wp2_with (first | rw [<- HW1.out] | rw [<- HW2.out, <- HG.out])
 refine (HT.out.byte 1 (by omega) (by simp)).mono ?_
 rintro e w3 ⟨rfl, ht3, -⟩
 obtain ⟨F3, x1, x2, x3⟩ := id ht3
 obtain ⟨d0, d1, d2⟩ := HC.out w3 x2
 have HT3 := kH ht3
 clear ht3 x1 x2 x3
 go_wp2_with fail
 refine (HT3.out.text nm hsm (by simp; omega)).mono ?_
 rintro e w4 ⟨rfl, ht4, -⟩
 obtain ⟨F4, x1, x2, x3⟩ := id ht4
 obtain ⟨e0, e1, e2⟩ := HC.out w4 x2
 have HT4 := kH ht4
 clear ht4 x1 x2 x3
 go_wp2_with fail
 refine (HT4.out.num (l.length : Nat) (by simp [x1B]; omega)).mono ?_
 rintro e w5 ⟨rfl, ht5, -⟩
 obtain ⟨F5, x1, x2, x3⟩ := id ht5
 obtain ⟨f0, f1, f2⟩ := HC.out w5 x2
 have ht5' : Txa w1 g (partT nm (l.map SV.x) 0) [] w5 := by
  unfold partT
  simp only [List.take_zero, List.flatMap_nil, List.append_nil, List.length_map]
  simpa [List.append_assoc] using ht5
 have HT5 := kH ht5'
 clear ht5 ht5' x1 x2 x3 HT4 HT3 c0 c1 c2 d0 d1 d2 e0 e1 e2
 go_wp2
 go_loopw [33] (fun iv wr => ∃ k : Nat, k <= l.length /\ iv = .int .i64 k /\ Txa w1 g (partT nm (l.map SV.x) k) [] wr) (fun iv _ => l.length - (intS iv).toNat)
 case atStart => exact ⟨0, by omega, rfl, HT5.out⟩
 case round =>
  obtain ⟨k, hk, rfl, hwt⟩ := hrel
  obtain ⟨wq, hwq⟩ : ∃ wq, wq = wr := ⟨_, rfl⟩
  subst hwq
  have hwk : IntKind.i64.wrap ((k : Int) + 1) = (k : Int) + 1 := by rw [IntKind.wrap_i64]; omega
  have hbel : Below w.heap.size w wq := by
   obtain ⟨F, x1, x2, x3⟩ := id hwt
   exact HB1.out.trans (x2.mono HB1.out.size)
  by_cases hlt : k < l.length
  ·obtain ⟨s, hs⟩ : ∃ s, l[k]? = some s := ⟨_, List.getElem?_eq_getElem hlt⟩
   obtain ⟨ad, rfl, hab, hc⟩ := (HL.out.since hbel).get hs
   have hx := HL.out.els s (List.mem_of_getElem? hs)
   have hst := xHL (nm := nm) (xs := l.map SV.x) (k := k) (x := s.x) (by simp [hs])
   have hle := xM0 nm (l.map SV.x) (k + 1)
   have hL := HLEN.out
   rw [hst] at hle
   simp only [List.length_append, x04, x1B] at hle
   have HX := kH hx
   have HST := kH hst
   have HTA := kH (hwt.alloc (.cells #[.int .i64 s.x.kd, .int .i64 s.x.at_, .int .i64 s.x.ln, .string (strOf s.x.nm), .slice s.D s.x.dt.length s.c] 52))
   have KA := Blk.new wq 52 #[.int .i64 s.x.kd, .int .i64 s.x.at_, .int .i64 s.x.ln, .string (strOf s.x.nm), .slice s.D s.x.dt.length s.c]
   have HKA := kH KA
   have HBE := kH hbel
   obtain ⟨ptl, hptl⟩ : ∃ n, n = (partT nm (l.map SV.x) k).length := ⟨_, rfl⟩
   rw [<- hptl] at hle
   obtain ⟨P, hP⟩ : ∃ P, P = partT nm (l.map SV.x) k := ⟨_, rfl⟩
   rw [<- hP] at HTA HST hptl
   clear hs hx hst hwt KA hbel
   go_wp2_with (have _h := hc; refine x1Y rfl (.tmp 35) rfl _ rfl s hc ?_; clear _h hc)
   refine (HTA.out.num s.x.kd (by omega)).mono ?_
   rintro e wa ⟨rfl, ta, ka⟩
   have Ka := HKA.out.of (ka _ (by simp))
   have a1 : wa.cell? ⟨wq.heap.size, 1, none⟩ = some (.int .i64 s.x.at_) := Ka.cell 1
   have HTa := kH ta
   have HKa := kH Ka
   clear ta ka Ka
   go_wp2_with fail
   refine (HTa.out.num s.x.at_ (by simp [x04]; omega)).mono ?_
   rintro e wb ⟨rfl, ta, ka⟩
   have Ka := HKa.out.of (ka _ (by simp))
   have a2 : wb.cell? ⟨wq.heap.size, 2, none⟩ = some (.int .i64 s.x.ln) := Ka.cell 2
   have HTb := kH ta
   have HKb := kH Ka
   clear ta ka Ka HTa HKa a1
   go_wp2_with fail
   refine (HTb.out.num s.x.ln (by simp [x04]; omega)).mono ?_
   rintro e wc ⟨rfl, ta, ka⟩
   have Ka := HKb.out.of (ka _ (by simp))
   have a3 : wc.cell? ⟨wq.heap.size, 3, none⟩ = some (.string (strOf s.x.nm)) := Ka.cell 3
   have HTc := kH ta
   have HKc := kH Ka
   clear ta ka Ka HTb HKb a2
   go_wp2_with fail
   refine (HTc.out.text s.x.nm HX.out.nm (by simp [x04]; omega)).mono ?_
   rintro e wd ⟨rfl, ta, ka⟩
   have Ka := HKc.out.of (ka _ (by simp))
   have a4 : wd.cell? ⟨wq.heap.size, 4, none⟩ = some (.slice s.D s.x.dt.length s.c) := Ka.cell 4
   have hbd : Below w.heap.size w wd := by
    obtain ⟨F, x1, x2, x3⟩ := id ta
    exact HB1.out.trans (x2.mono HB1.out.size)
   have HBY := kH ((HX.out.since hbd).dat)
   have HTd := kH ta
   clear ta ka Ka HTc HKc a3 hbd
   go_wp2_with fail
   refine (HTd.out.bytes s.x.dt HBY.out (Nat.le_trans hB HB1.out.size) (by simp [x04, x1B]; omega)).mono ?_
   rintro e we ⟨rfl, ta, -⟩
   rw [<- HST.out] at ta
   have HTe := kH (ta.mono (P' := []) (fun k hk => by cases hk))
   clear ta HTd HBY a4
   go_wp2
   go_roundw
   case rel => exact ⟨k + 1, by omega, by go_num, HTe.out⟩
   case measure => simp [intS]; omega
  ·obtain rfl : k = l.length := by omega
   have hall := xK9 nm (l.map SV.x)
   rw [List.length_map] at hall
   rw [hall] at hwt
   obtain ⟨F, x1, x2, x3⟩ := id hwt
   have HO := kH (x7M wq w1.heap.size F (some ⟨g, 0, none⟩) _ x1 (by have := HLEN.out; omega))
   have HBQ := kH hbel
   clear hwt x1 x2 x3 hbel hall
   go_wp2_with fail
   refine HO.out.mono ?_
   rintro e w6 ⟨v, rfl, h6, b6⟩
   have HF := kH (kA (h6.weaken HBQ.out.size) (HBQ.out.trans (b6.mono HBQ.out.size)))
   clear h6 b6
   go_wp2
   go_ret
   exact ⟨v, rfl, HF.out.1, HF.out.2⟩
end
section
open Go.RowKit Go.BigFrame
set_option maxHeartbeats 8000000 in
theorem xDL {w : World} {B cs : Nat} {As : Option Addr} {l : List SV} (nm : List Nat) (hl : StepsR w B As l) (hB : B <= w.heap.size) (hll : l.length <= 1000000) :
  Calls Tryz.prog 106 #[.agg (chC 1 nm As l.length cs 0)] w fun e w' => e = .returned (.bool ((l.map SV.x).any lastB)) /\ Below w.heap.size w w' := by
 obtain ⟨w1, hw1⟩ : ∃ w1, w1 = w.alloc (.cells (chC 1 nm As l.length cs 0) 128) := ⟨_, rfl⟩
 have hb1 : Below w.heap.size w w1 := by rw [hw1]; exact x06 _ _
 have K1 : Blk w1 w.heap.size 128 (chC 1 nm As l.length cs 0) := by rw [hw1]; exact Blk.new _ _ _
 have c2 : w1.cell? ⟨w.heap.size, 2, none⟩ = some (.slice As l.length cs) := K1.cell 2
 have HC : Hid (∀ w', Below w1.heap.size w1 w' -> w'.cell? ⟨w.heap.size, 0, none⟩ = some (.int .u8 1)) := kH fun w' hb => (K1.of (hb.block _ K1.lt)).cell 0
 have HW1 := kH hw1
 have HB1 := kH hb1
 have HL := kH hl
 clear hw1 hb1 K1 hl
 go_enter Tryz.func106, Tryz.ntmps106
 go_wp2_with (first | rw [<- HW1.out])
 go_loopw [8] (fun iv wr => ∃ k : Nat, k <= l.length /\ iv = .int .i64 k /\ Below w1.heap.size w1 wr /\ ((l.map SV.x).take k).any lastB = false) (fun iv _ => l.length - (intS iv).toNat)
 case atStart => exact ⟨0, by omega, rfl, Below.refl _ _, rfl⟩
 case round =>
  obtain ⟨k, hk, rfl, hwt, hno⟩ := hrel
  obtain ⟨wq, hwq⟩ : ∃ wq, wq = wr := ⟨_, rfl⟩
  subst hwq
  have hwk : IntKind.i64.wrap ((k : Int) + 1) = (k : Int) + 1 := by rw [IntKind.wrap_i64]; omega
  have hbel : Below w.heap.size w wq := HB1.out.trans (hwt.mono HB1.out.size)
  by_cases hlt : k < l.length
  ·obtain ⟨s, hs⟩ : ∃ s, l[k]? = some s := ⟨_, List.getElem?_eq_getElem hlt⟩
   obtain ⟨ad, rfl, hab, hc⟩ := (HL.out.since hbel).get hs
   have hxs : (l.map SV.x)[k]? = some s.x := by simp [hs]
   have htk := x5R hxs
   have HWT := kH (kA hwt (kA hbel (kA hno (kA hxs htk))))
   have hin : lastB s.x = true -> (l.map SV.x).any lastB = true := fun h => List.any_eq_true.2 ⟨s.x, List.mem_of_getElem? hxs, h⟩
   have HIN := kH hin
   clear hs hwt hbel hno hxs htk hin
   by_cases hlast : lastB s.x = true
   ·have HF := kH (HIN.out hlast)
    have hcs : s.x.kd = 6 ∨ s.x.kd = 7 ∨ s.x.kd = 8 ∨ s.x.kd = 9 ∨ s.x.kd = 10 ∨ s.x.kd = 11 ∨ s.x.kd = 12 := by
     unfold lastB at hlast
     simp at hlast
     omega
    clear hlast HIN
    obtain ⟨kd, hkd⟩ : ∃ kd, kd = s.x.kd := ⟨_, rfl⟩
    rw [<- hkd] at hcs
    rcases hcs with rfl | rfl | rfl | rfl | rfl | rfl | rfl
    all_goals
     go_wp2_with (have _h := hc; refine x1Y rfl (.tmp 10) rfl _ rfl s hc ?_; clear _h hc; rw [<- hkd])
     go_ret
     exact ⟨by rw [HF.out]; rfl, HWT.out.2.1.alloc HWT.out.2.1.size _⟩
   ·have hno : lastB s.x = false := by simpa using hlast
    have n6 : (s.x.kd == 6) = false := by unfold lastB at hno; simp at hno ⊢; omega
    have n7 : (s.x.kd == 7) = false := by unfold lastB at hno; simp at hno ⊢; omega
    have n8 : (s.x.kd == 8) = false := by unfold lastB at hno; simp at hno ⊢; omega
    have n9 : (s.x.kd == 9) = false := by unfold lastB at hno; simp at hno ⊢; omega
    have n10 : (s.x.kd == 10) = false := by unfold lastB at hno; simp at hno ⊢; omega
    have n11 : (s.x.kd == 11) = false := by unfold lastB at hno; simp at hno ⊢; omega
    have n12 : (s.x.kd == 12) = false := by unfold lastB at hno; simp at hno ⊢; omega
    have HNO := kH hno
    clear hno hlast HIN
    go_wp2_with (have _h := hc; refine x1Y rfl (.tmp 10) rfl _ rfl s hc ?_; clear _h hc)
    go_roundw
    case rel => exact ⟨k + 1, by omega, by go_num, HWT.out.1.alloc HWT.out.1.size _, by rw [HWT.out.2.2.2.2, List.any_append, HWT.out.2.2.1]; simp [HNO.out]⟩
    case measure => simp [intS]; omega
  ·obtain rfl : k = l.length := by omega
   rw [List.take_of_length_le (by simp)] at hno
   have q0 := HC.out wq hwt
   have HF := kH (kA hno hbel)
   clear hno hbel
   go_wp2
   go_ret
   exact ⟨by rw [HF.out.1]; rfl, HF.out.2⟩
end
section
open Go.RowKit Go.BigFrame
def SCopy (w : World) (Z : List Nat) (M : Mod) (kv : KV) (e : Ending) (w' : World) : Prop := ∃ gs ms gp r c A, e = .returned (.pointer (some ⟨gs, 0, none⟩)) /\ StoreAt w' (ms :: Z) gs ms gp r c A M kv /\ w.heap.size <= gs /\ (∀ k ∈ ms :: foot gp r M.fl, w.heap.size <= k) /\ Below w.heap.size w w'
theorem xGO {w : World} {Z : List Nat} {gs ms gp r c : Nat} {A : Option Addr} {M : Mod} {kv : KV} (h : StoreAt w Z gs ms gp r c A M kv) : Calls Tryz.prog 55 #[.pointer (some ⟨gs, 0, none⟩)] w (SCopy w Z M kv) := by
 refine (xGT h.st).mono ?_
 rintro e w' ⟨gs', ms', gp', r', c', A', rfl, h1, h2, h3, h4, h5, h6⟩
 refine ⟨gs', ms', gp', r', c', A', rfl, ⟨h1, (h.wide (Z' := ms' :: Z) h6 (fun z hz => ?_)).obs⟩, h2, fun k hk => ?_, h6⟩
 ·rcases List.mem_cons.1 hz with rfl | hz
  ·exact .inr h3
  ·exact .inl hz
 ·rcases List.mem_cons.1 hk with rfl | hk
  ·exact h3
  ·rcases x1Q hk with rfl | ⟨_, rfl⟩
   ·exact h4
   ·exact h5
set_option maxHeartbeats 4000000 in
theorem xCX {w : World} {Z : List Nat} {gs ms gp r c n0 B cs : Nat} {A As : Option Addr} {M : Mod} {kv : KV} (h : StoreAt w Z gs ms gp r c A M kv) (hZ : ms ∈ Z) (hZl : ∀ z ∈ Z, z < w.heap.size) (hI : Inv n0 M) (hn0 : n0 <= 900000) (nm : List Nat) (hsm : Small nm) (hnm : nm.length <= 1000000)
  {l : List SV} (hl : StepsR w B As l) (hB : B <= w.heap.size) (hll : l.length <= cs) (hl6 : l.length <= 1000000) :
  Calls Tryz.prog 107 #[.agg (chC 1 nm As l.length cs 0), .pointer (some ⟨gs, 0, none⟩)] w fun e w' => ∃ w1, Below w.heap.size w w1 /\ DoTo w1 Z gs ms gp r c A M nm (l.map SV.x) e w' := by
 obtain ⟨w1, hw1⟩ : ∃ w1, w1 = w.alloc (.cells (chC 1 nm As l.length cs 0) 128) := ⟨_, rfl⟩
 have hb1 : Below w.heap.size w w1 := by rw [hw1]; exact x06 _ _
 have K1 : Blk w1 w.heap.size 128 (chC 1 nm As l.length cs 0) := by rw [hw1]; exact Blk.new _ _ _
 have c0 : w1.cell? ⟨w.heap.size, 0, none⟩ = some (.int .u8 1) := K1.cell 0
 have c1 : w1.cell? ⟨w.heap.size, 1, none⟩ = some (.string (strOf nm)) := K1.cell 1
 have c2 : w1.cell? ⟨w.heap.size, 2, none⟩ = some (.slice As l.length cs) := K1.cell 2
 have HD := kH (xNP (h.below hb1) hZ (fun z hz => Nat.lt_of_lt_of_le (hZl z hz) hb1.size) hI hn0 nm hsm hnm (hl.since hb1) (Nat.le_trans hB hb1.size) hll hl6)
 have HW1 := kH hw1
 have HB1 := kH hb1
 clear hw1 hb1 K1 hl h
 go_enter Tryz.func107, Tryz.ntmps107
 go_wp2_with (first | rw [<- HW1.out])
 refine HD.out.mono ?_
 rintro e w2 ⟨hon, M', k, told, v, kv', hr, hst, rfl, ht⟩
 have HF := kH (kA hon (kA hr (kA hst ht)))
 clear hon hr hst ht
 generalize hev : errV k = ev
 have HEV := kH hev
 clear hev
 go_wp2
 go_ret2
 exact ⟨w1, HB1.out, HF.out.1, M', k, told, v, kv', HF.out.2.1, HF.out.2.2.1, by rw [HEV.out]; rfl, HF.out.2.2.2⟩
structure JSm (k : Nat) (J : JS) : Prop where
 b : J.b = false
 s : J.s <= 400 * (k + 1)
 gen : J.gen <= k + 1
 txs : J.txs.length <= k
 l : J.l <= 9223372036854775807
theorem JSm.mono {k k' : Nat} {J : JS} (h : JSm k J) (hk : k <= k') : JSm k' J := ⟨h.b, by have := h.s; omega, by have := h.gen; omega, by have := h.txs; omega, h.l⟩
theorem x35 {n : Nat} (h : n <= 500) : areaOf n <= 166 /\ logOf n <= 168 := by unfold logOf areaOf; omega
section
variable {w0 w w' : World} {g gj n c k : Nat} {J : JS} {F : List Nat} {A : Option Addr} {vt : Value} {us : List Value}
def JTo (w0 w : World) (g gj n : Nat) (vt : Value) (F : List Nat) (J : JS) (w' : World) : Prop := ∃ F' A' c' vt' us', JX w0 w' g gj (DM.up J.b n J.f J.s J.l) n J.gen J.st J.txs J.u F' A' c' vt' us' /\ Only (jf gj vt F) w w' /\ Fresh w (jf gj vt F) (jf gj vt' F') /\ JFine J.f n J.gen J.st J.txs J.u
theorem xCJ (h : JX w0 w g gj (DM.up J.b n J.f J.s J.l) n J.gen J.st J.txs J.u F A c vt us) (hfi : JFine J.f n J.gen J.st J.txs J.u) (hsm : JSm k J) (hk : k <= 50000) (hn : n <= 500) (B : Option Addr) (cb : Nat) (tx : List Nat) (hst : Bytes w w.heap.size B tx.length tx) (hl : tx.length <= 1000000) (hlc : tx.length <= cb) (hcm : cb <= 9223372036854775807) (hne : tx ≠ [])
  (hT : Tab w) (hw0 : 0 < w0.heap.size) (hB : ∀ k ∈ blkOf B, k < w.heap.size /\ k ∉ F) :
  Calls Tryz.prog 158 #[.pointer (some ⟨gj, 0, none⟩), .slice B tx.length cb] w fun e w' => e = .returned (errV (appJ n J tx).2) /\ JTo w0 w g gj n vt F (appJ n J tx).1 w' := by
 have h1 := hsm.s
 have h2 := hsm.gen
 have h3 := hsm.txs
 have h4 := x35 hn
 have h5 : 0 < tx.length := List.length_pos_iff.2 hne
 have hpe : pn tx = pnN tx.length := rfl
 unfold appJ
 by_cases hfull : logOf n - J.u < pn tx + 1
 ·rw [if_pos hfull]
  refine (xEX h.jb (by omega) hfi.ok.ule B tx.length cb h5 (by omega) (by omega)).mono ?_
  rintro e w' ⟨rfl, hb⟩
  exact ⟨rfl, F, A, c, vt, us, h.below hb, Only.of_below hb _, Fresh.refl _ _, hfi⟩
 ·have hp : pn tx + 1 <= logOf n - J.u := by omega
  have hlen : tx.length <= 20000 := by unfold pn at hp; omega
  have hno : ¬ (J.b = true /\ J.l < pn tx + 3) := by rw [hsm.b]; simp
  have hfit : J.u + pn tx + 1 <= logOf n := by have := hfi.ok.ule; omega
  have e := xP6 (J := J) hfi.ok.n8 hfit hno hfi hne hst.2 hlen
  rw [if_neg hfull, if_neg hno]
  refine (h.append (by omega) (by omega) hfi.ok.ule B cb tx hst hlen hlc hcm hne hp hT hw0 hB (xKC (by omega) hsm.l (by omega)) (by rw [e]) (by omega)).mono ?_
  rintro e' w' ⟨rfl, F', vt', us', hj, ho, hf⟩
  rw [e] at hj
  exact ⟨rfl, F', A, c, vt', us', hj, ho, hf, hfi.app hne hst.2 hfit⟩
theorem xON {st : List Nat} (h : JX w0 w g gj (DM.up J.b n J.f J.s J.l) n J.gen J.st J.txs J.u F A c vt us) (hfi : JFine J.f n J.gen J.st J.txs J.u) (hsm : JSm k J) (hk : k <= 50000) (hn : n <= 500) (B : Option Addr) (cb : Nat) (hst : Bytes w w.heap.size B st.length st) (hl : st.length <= 1000000) (hlc : st.length <= cb) (hcm : cb <= 9223372036854775807)
  (hT : Tab w) (hw0 : 0 < w0.heap.size) (hB : ∀ k ∈ blkOf B, k < w.heap.size /\ k ∉ F) :
  Calls Tryz.prog 157 #[.pointer (some ⟨gj, 0, none⟩), .slice B st.length cb] w fun e w' => e = .returned (errV (ckptJ n J st).2) /\ JTo w0 w g gj n vt F (ckptJ n J st).1 w' := by
 have h1 := hsm.s
 have h2 := hsm.gen
 have h3 := hsm.txs
 have h4 := x35 hn
 have hpe : pn st = pnN st.length := rfl
 unfold ckptJ
 by_cases hfull : areaOf n < pn st
 ·rw [if_pos hfull]
  refine (x9D h.jb B st.length cb (by omega) (by omega)).mono ?_
  rintro e w' ⟨rfl, hb⟩
  exact ⟨rfl, F, A, c, vt, us, h.below hb, Only.of_below hb _, Fresh.refl _ _, hfi⟩
 ·have hp : pn st <= areaOf n := by omega
  have hlen : st.length <= 20000 := by unfold pn at hp; omega
  have hno : ¬ (J.b = true /\ J.l < pn st + 3) := by rw [hsm.b]; simp
  have e := xP3 (J := J) hfi.ok.n8 hp hno hfi hst.2 hlen (by omega)
  rw [if_neg hfull, if_neg hno]
  refine (h.checkpoint (by omega) (by omega) B cb hst hlen hlc hcm hp hT hw0 hB (xKC (by omega) hsm.l (by omega)) (by rw [e])).mono ?_
  rintro e' w' ⟨rfl, F', A', c', hj, ho, hf⟩
  rw [e] at hj
  exact ⟨rfl, F', A', c', _, _, hj, ho, hf, hfi.ckpt hp hst.2 hlen (by omega)⟩
theorem xPH {tx : List Nat} (hn : n <= 500) (h : JSm k J) : JSm (k + 1) (appJ n J tx).1 := by
 have h4 := x35 hn
 have h1 := h.s
 have h2 := h.gen
 have h3 := h.txs
 unfold appJ
 split
 ·exact h.mono (by omega)
 ·split
  ·exact h.mono (by omega)
  ·exact ⟨h.b, by simp only; omega, by simp only; omega, by simp only [List.length_append, List.length_singleton]; omega, by simp only [h.b]; exact h.l⟩
theorem xNE {st : List Nat} (hn : n <= 500) (h : JSm k J) : (ckptJ n J st).1.b = false /\ (ckptJ n J st).1.s <= J.s + 169 /\ (ckptJ n J st).1.gen <= J.gen + 1 /\ (ckptJ n J st).1.txs.length <= J.txs.length /\ (ckptJ n J st).1.l <= 9223372036854775807 := by
 have h4 := x35 hn
 unfold ckptJ
 split
 ·exact ⟨h.b, Nat.le_add_right _ _, Nat.le_add_right _ _, Nat.le_refl _, h.l⟩
 ·split
  ·exact ⟨h.b, Nat.le_add_right _ _, Nat.le_add_right _ _, Nat.le_refl _, h.l⟩
  ·exact ⟨h.b, by simp only; omega, Nat.le_refl _, by simp, by simp only [h.b]; exact h.l⟩
theorem xP0 {st tx : List Nat} (hn : n <= 500) (h : JSm k J) : JSm (k + 1) (noteJ n J st tx).1 := by
 have h4 := x35 hn
 obtain ⟨a1, a2, a3, a4, a5⟩ := xNE (st := st) hn h
 have h1 := h.s
 have h2 := h.gen
 have h3 := h.txs
 unfold noteJ
 split
 ·split
  ·generalize (ckptJ n J st).1 = K at *
   unfold appJ
   split
   ·exact ⟨a1, by simp only; omega, by simp only; omega, by simp only; omega, a5⟩
   ·split
    ·exact ⟨a1, by simp only; omega, by simp only; omega, by simp only; omega, a5⟩
    ·exact ⟨a1, by simp only; omega, by simp only; omega, by simp only [List.length_append, List.length_singleton]; omega, by simp only [a1]; exact a5⟩
  ·exact ⟨a1, by omega, by omega, by omega, a5⟩
 ·exact xPH hn h
end
end
section
open Go.RowKit Go.BigFrame
def poolC (gj gs : Nat) (b : Bool) : Array Value := #[.pointer (some ⟨gj, 0, none⟩), .pointer (some ⟨gs, 0, none⟩), .bool b]
theorem JTo.then_ {w0 w w1 w' : World} {g gj n : Nat} {vt vt1 : Value} {F F1 : List Nat} {J' : JS} (ho : Only (jf gj vt F) w w1) (hf : Fresh w (jf gj vt F) (jf gj vt1 F1)) (h : JTo w0 w1 g gj n vt1 F1 J' w') : JTo w0 w g gj n vt F J' w' := by
 obtain ⟨F', A', c', vt', us', h1, h2, h3, h4⟩ := h
 exact ⟨F', A', c', vt', us', h1, ho.trans h2 hf, hf.trans h3 ho.size, h4⟩
theorem JTo.after {w0 w w1 w' : World} {g gj n : Nat} {vt : Value} {F : List Nat} {J' : JS} (hb : Below w.heap.size w w1) (h : JTo w0 w1 g gj n vt F J' w') : JTo w0 w g gj n vt F J' w' := JTo.then_ (Only.of_below hb _) (Fresh.refl _ _) h
theorem x1N {w : World} {G : List Nat} {t : TypeId} {g : Nat} {cs : Array Value} (h : Blk w g t cs) (hG : ∀ k ∈ G, Odd w t k) : g ∉ G := fun hm => hG g hm cs h
theorem x5F {w : World} {base n c : Nat} {A : Option Addr} {bs : List Nat} (h : Own w base (.slice A n c) n bs) (hn : 0 < n) : ∀ k ∈ blkOf A, base <= k /\ k < w.heap.size := fun k hk => by
 rcases h.2 with ⟨e, h0⟩ | ⟨g, cap, cur, e, hb, hh, _⟩
 ·rw [h0] at hn; exact absurd hn (by simp)
 ·injection e with e1 e2 e3
  subst e1
  simp [blkOf] at hk
  subst hk
  exact ⟨hb, (Array.getElem?_eq_some_iff.1 hh).1⟩
theorem x8Z {w : World} {base n c : Nat} {A : Option Addr} {bs : List Nat} (h : Own w base (.slice A n c) n bs) : n <= c /\ c <= 9223372036854775807 := by
 rcases h.2 with ⟨e, h0⟩ | ⟨g, cap, cur, e, hb, hh, h1, h2, _⟩
 ·injection e with e1 e2 e3
  omega
 ·injection e with e1 e2 e3
  subst e3
  exact ⟨h1, Nat.le_trans h2 (by decide)⟩
section
variable {w0 w w' : World} {gq n k m : Nat} {x : PX} {J : JS} {M : Mod}
set_option maxHeartbeats 8000000 in
theorem xL7 (h : JSo w0 w n x J M) (hp : Blk w gq 113 (poolC x.gj x.gs false)) (hfi : JFine J.f n J.gen J.st J.txs J.u) (hsm : JSm k J) (hk : k <= 40000) (hn : n <= 500) (hI : Inv m M) (hm : m <= 1000000) (hput : (putM M).length <= 1000000)
  (B : Option Addr) (cb : Nat) (tx : List Nat) (hst : Bytes w w.heap.size B tx.length tx) (hl : tx.length <= 1000000) (hlc : tx.length <= cb) (hcm : cb <= 9223372036854775807) (hne : tx ≠ [])
  (hT : Tab w0) (hw0 : 0 < w0.heap.size) (hB : ∀ k ∈ blkOf B, k < w.heap.size /\ k ∉ jf x.gj x.vt x.F) :
  Calls Tryz.prog 108 #[.pointer (some ⟨gq, 0, none⟩), .slice B tx.length cb] w fun e w' => e = .returned (errV (noteJ n J (putM M) tx).2) /\ JTo w0 w x.g x.gj n x.vt x.F (noteJ n J (putM M) tx).1 w' := by
 have hul : logOf n - J.u < 1000000 := by have := x35 hn; omega
 have hnl : needOf tx.length <= 1000000 := by
  have hpos : 0 < tx.length := List.length_pos_iff.2 hne
  unfold needOf
  rw [if_neg (by omega)]
  show pnN tx.length + 1 <= _
  unfold pnN
  omega
 have HTAB : Hid (∀ w', Below w0.heap.size w0 w' -> Tab w') := kH fun w' hb => x0O hT hb hw0
 have HBF : Hid (∀ k ∈ blkOf B, k < w.heap.size /\ k ∉ x.F) := kH fun k hk => ⟨(hB k hk).1, fun hF => (hB k hk).2 (by unfold jf; simp [hF])⟩
 have HB0 := kH hB
 have HJS := kH h
 have HPB := kH hp
 have HFI := kH hfi
 have HSM := kH hsm
 have HST := kH hst
 have HI := kH (kA hI hput)
 have hqO : gq ∉ jf x.gj x.vt x.F := x1N hp (h.jx.odd (by decide) (by decide) (by decide) (by decide))
 have HQO := kH hqO
 clear h hp hfi hsm hst hT hB hI hput hqO
 go_enter Tryz.func108, Tryz.ntmps108
 go_upto_region 1 with (fail)
 have hS0 : Blk w.drew gq 113 (poolC x.gj x.gs false) /\ Below w.heap.size w w.drew := ⟨HPB.out.drew, x08 (Below.refl _ _) 1⟩
 refine x09 (fun w' => Blk w' gq 113 (poolC x.gj x.gs false) /\ Below w.heap.size w w') 99 (by kernel_rfl) ?_
 refine tS (i := 0) (v := .slice B tx.length cb) rfl rfl (by kernel_rfl) (by rfl) (fun w hw => by kernel_rfl) hS0 ?_
 simp only [Act.put, nB, nC, nD, nE, nF, nG]
 refine tS (i := 1) (v := .int .i64 (tx.length : Nat)) rfl rfl (by kernel_rfl) (by rfl) (fun w hw => by go_simp) hS0 ?_
 simp only [Act.put, nB, nC, nD, nE, nF, nG]
 refine tS (i := 3) (v := .pointer (some ⟨gq, 0, none⟩)) rfl rfl (by kernel_rfl) (by rfl) (fun w hw => by kernel_rfl) hS0 ?_
 simp only [Act.put, nB, nC, nD, nE, nF, nG]
 refine tS (i := 4) (v := .pointer (some ⟨gq, 0, none⟩)) rfl rfl (by kernel_rfl) (by rfl) (fun w hw => by kernel_rfl) hS0 ?_
 simp only [Act.put, nB, nC, nD, nE, nF, nG]
 refine tS (i := 5) (v := .pointer (some ⟨gq, 0, none⟩)) rfl rfl (by kernel_rfl) (by rfl) (fun w hw => by go_simp) hS0 ?_
 simp only [Act.put, nB, nC, nD, nE, nF, nG]
 refine tS (i := 6) (v := .pointer (some ⟨x.gj, 0, none⟩)) rfl rfl (by kernel_rfl) (by rfl) (fun w hw => by have q : w.cell? ⟨gq, 0, none⟩ = some (.pointer (some ⟨x.gj, 0, none⟩)) := hw.1.cell 0; go_simp) hS0 ?_
 simp only [Act.put, nB, nC, nD, nE, nF, nG]
 refine x01 (j := 2) (by kernel_rfl) rfl (by rfl) ?_
 simp only [Act.put, nB, nC, nD, nE, nF, nG]
 refine x03 (by kernel_rfl) (x8M tx.length w.drew (by omega)) ?_
 rintro e w1 ⟨rfl, hw1⟩
 subst hw1
 refine ⟨_, rfl, hS0, ?_⟩
 simp only [Act.put, nB, nC, nD, nE, nF, nG]
 refine x01 (j := 7) (by kernel_rfl) rfl (by rfl) ?_
 simp only [Act.put, nB, nC, nD, nE, nF, nG]
 refine x03 (by kernel_rfl) (x74 (HJS.out.jx.below hS0.2).jb (by omega) HFI.out.ok.ule) ?_
 rintro e w1 ⟨rfl, hb1⟩
 have hb01 : Below w.heap.size w w1 := hS0.2.trans (hb1.mono hS0.2.size)
 have hp1 := HPB.out.below hb01 HPB.out.lt
 refine ⟨_, rfl, ⟨hp1, hb01⟩, ?_⟩
 simp only [Act.put, nB, nC, nD, nE, nF, nG]
 have HB01 := kH hb01
 have HP1 := kH hp1
 clear hS0 hb1 hb01 hp1
 by_cases hroom : logOf n - J.u < needOf tx.length
 ·have hd : decide (((logOf n - J.u : Nat) : Int) < (needOf tx.length : Int)) = true := by simp; omega
  have HR := kH hroom
  clear hroom
  refine x01 (j := 8) (by kernel_rfl) rfl (by rfl) ?_
  simp only [Act.put, nB, nC, nD, nE, nF, nG]
  refine x0B (v := .bool true) (w' := w1) (by go_simp; exact HR.out) ⟨⟨HP1.out, HB01.out⟩, ?_⟩
  simp only [Act.put, nB, nC, nD, nE, nF, nG]
  refine x0V (by kernel_rfl) ?_
  refine NoPanic.normal ?_
  clear hd
  go_upto_region 2 with (fail)
  have hS1 : Blk w1.drew gq 113 (poolC x.gj x.gs false) := HP1.out.drew
  have hb1d : Below w.heap.size w w1.drew := HB01.out.trans (x08 (Below.refl _ _) 1 |>.mono HB01.out.size)
  refine x09 (fun w' => Blk w' gq 113 (poolC x.gj x.gs false)) 10 (by kernel_rfl) ?_
  refine tL (i := 0) (v := .pointer (some ⟨gq, 0, none⟩)) rfl rfl (by kernel_rfl) (by rfl) (fun w hw => by kernel_rfl) hS1 ?_
  simp only [Act.put, nB, nC, nD, nE, nF, nG]
  refine tL (i := 1) (v := .pointer (some ⟨gq, 0, none⟩)) rfl rfl (by kernel_rfl) (by rfl) (fun w hw => by kernel_rfl) hS1 ?_
  simp only [Act.put, nB, nC, nD, nE, nF, nG]
  refine tL (i := 2) (v := .pointer (some ⟨gq, 0, none⟩)) rfl rfl (by kernel_rfl) (by rfl) (fun w hw => by go_simp) hS1 ?_
  simp only [Act.put, nB, nC, nD, nE, nF, nG]
  refine tL (i := 3) (v := .pointer (some ⟨x.gj, 0, none⟩)) rfl rfl (by kernel_rfl) (by rfl) (fun w hw => by have q : w.cell? ⟨gq, 0, none⟩ = some (.pointer (some ⟨x.gj, 0, none⟩)) := hw.cell 0; go_simp) hS1 ?_
  simp only [Act.put, nB, nC, nD, nE, nF, nG]
  refine tL (i := 4) (v := .pointer (some ⟨gq, 0, none⟩)) rfl rfl (by kernel_rfl) (by rfl) (fun w hw => by kernel_rfl) hS1 ?_
  simp only [Act.put, nB, nC, nD, nE, nF, nG]
  refine tL (i := 5) (v := .pointer (some ⟨gq, 0, none⟩)) rfl rfl (by kernel_rfl) (by rfl) (fun w hw => by kernel_rfl) hS1 ?_
  simp only [Act.put, nB, nC, nD, nE, nF, nG]
  refine tL (i := 6) (v := .pointer (some ⟨gq, 1, none⟩)) rfl rfl (by kernel_rfl) (by rfl) (fun w hw => by go_simp) hS1 ?_
  simp only [Act.put, nB, nC, nD, nE, nF, nG]
  refine tL (i := 7) (v := .pointer (some ⟨x.gs, 0, none⟩)) rfl rfl (by kernel_rfl) (by rfl) (fun w hw => by have q : w.cell? ⟨gq, 1, none⟩ = some (.pointer (some ⟨x.gs, 0, none⟩)) := hw.cell 1; go_simp) hS1 ?_
  simp only [Act.put, nB, nC, nD, nE, nF, nG]
  refine x01 (j := 8) (by kernel_rfl) rfl (by rfl) ?_
  simp only [Act.put, nB, nC, nD, nE, nF, nG]
  refine x03 (by kernel_rfl) (xAU (HJS.out.so.below hb1d) HI.out.1 hm (by have := HI.out.2; omega)) ?_
  rintro e w2 ⟨v2, rfl, ho2, hb2, hsmall⟩
  have hb02 : Below w.heap.size w w2 := hb1d.trans (hb2.mono hb1d.size)
  have hp2 : Blk w2 gq 113 (poolC x.gj x.gs false) := HPB.out.below hb02 HPB.out.lt
  refine ⟨_, rfl, hp2, ?_⟩
  obtain ⟨A2, c2, rfl⟩ := x0H ho2
  have hpl : 0 < (putM M).length := by unfold putM; simp [x04]; omega
  have hsz := hb1d.size
  obtain ⟨hc2, hcm2⟩ := x8Z ho2
  have hcj := xON (HJS.out.jx.below hb02) HFI.out HSM.out (by omega) hn A2 c2 (st := putM M) (ho2.bytes hsmall) HI.out.2 hc2 hcm2 (HTAB.out w2 (HJS.out.jx.bel.trans (hb02.mono HJS.out.jx.bel.size))) hw0 (fun q hq => by
   have h1 := x5F ho2 hpl q hq
   refine ⟨h1.2, fun hF => ?_⟩
   have := HJS.out.jx.under q (by unfold jf; simp [hF])
   omega)
  simp only [Act.put, nB, nC, nD, nE, nF, nG]
  refine x01 (j := 9) (by kernel_rfl) rfl (by rfl) ?_
  simp only [Act.put, nB, nC, nD, nE, nF, nG]
  refine x03 (by kernel_rfl) hcj ?_
  rintro e w3 ⟨rfl, F3, A3, c3, vt3, us3, hj3, hon3, hfr3, hfi3⟩
  have hp3 : Blk w3 gq 113 (poolC x.gj x.gs false) := hp2.of (hon3.block _ hp2.lt HQO.out)
  refine ⟨_, rfl, hp3, ?_⟩
  simp only [Act.put, nB, nC, nD, nE, nF, nG]
  refine x1V (by kernel_rfl) rfl (by rfl) (by kernel_rfl) ?_
  simp only [Act.put, nB, nC, nD, nE, nF, nG]
  refine x0B (v := errV (ckptJ n J (putM M)).2) (w' := w3) (by kernel_rfl) ?_
  refine NoPanic.normal ?_
  simp only [Act.put, nB, nC, nD, nE, nF, nG]
  have hon03 : Only (jf x.gj x.vt x.F) w w3 := (Only.of_below hb02 _).trans hon3 (Fresh.refl _ _)
  have hfr03 : Fresh w (jf x.gj x.vt x.F) (jf x.gj vt3 F3) := fun q hq => by
   rcases hfr3 q hq with h1 | h1
   ·exact .inl h1
   ·exact .inr (Nat.le_trans hb02.size h1)
  have HB3 : Hid (Bytes w3 w3.heap.size B tx.length tx /\ ∀ q ∈ blkOf B, q < w3.heap.size /\ q ∉ F3) := kH ⟨(HST.out.only hon03 (fun a ha _ hm => by
   subst ha
   exact (HB0.out _ (by simp [blkOf])).2 hm)).more hon03.size, fun q hq => ⟨Nat.lt_of_lt_of_le (HBF.out q hq).1 hon03.size, fun hm => by
    rcases hfr03 q (by unfold jf; simp [hm]) with h1 | h1
    ·exact (HB0.out q hq).2 h1
    ·have := (HBF.out q hq).1; omega⟩⟩
  have HJ3 := kH hj3
  have HP3 := kH hp3
  have HF3 := kH (kA hfi3 (kA hon03 hfr03))
  have hnj : noteJ n J (putM M) tx = if (ckptJ n J (putM M)).2 = 0 then appJ n (ckptJ n J (putM M)).1 tx else ckptJ n J (putM M) := by unfold noteJ; rw [if_pos HR.out]
  have hcs := xNE (st := putM M) hn HSM.out
  have hs3 : JSm (k + 1) (ckptJ n J (putM M)).1 := ⟨hcs.1, by have := hcs.2.1; have := HSM.out.s; omega, by have := hcs.2.2.1; have := HSM.out.gen; omega, by have := hcs.2.2.2.1; have := HSM.out.txs; omega, hcs.2.2.2.2⟩
  have HS3 := kH hs3
  have HNJ := kH hnj
  clear hS1 hb1d ho2 hb2 hb02 hp2 hsmall hpl hc2 hcm2 hcj hj3 hon3 hfr3 hfi3 hp3 hon03 hfr03 hnj hcs hs3
  generalize hcj : ckptJ n J (putM M) = CJ at *
  obtain ⟨J3, e3⟩ := CJ
  dsimp only at HJ3 HF3 HS3 HNJ ⊢
  by_cases he : e3 = 0
  ·subst he
   have hq3 : w3.cell? ⟨gq, 0, none⟩ = some (.pointer (some ⟨x.gj, 0, none⟩)) := HP3.out.cell 0
   have HA := kH (xCJ HJ3.out HF3.out.1 HS3.out (by omega) hn B cb tx HB3.out.1 hl hlc hcm hne (HTAB.out w3 HJ3.out.bel) hw0 HB3.out.2)
   have hnj := HNJ.out
   rw [if_pos rfl] at hnj
   have HNJ2 := kH hnj
   clear hnj HNJ
   simp only [errV]
   go_wp2_with fail
   refine HA.out.mono ?_
   rintro e w4 ⟨rfl, hjt⟩
   have HJT := kH hjt
   clear hjt HA
   generalize hev : errV (appJ n J3 tx).2 = ev
   have HEV := kH hev
   clear hev
   go_wp2
   go_ret
   rw [HNJ2.out]
   exact ⟨by rw [HEV.out]; rfl, JTo.then_ HF3.out.2.1 HF3.out.2.2 HJT.out⟩
  ·have hnj := HNJ.out
   rw [if_neg he] at hnj
   have HNJ2 := kH hnj
   obtain ⟨i, rfl⟩ : ∃ i, e3 = i + 1 := ⟨e3 - 1, by omega⟩
   clear hnj HNJ he
   simp only [errV]
   go_wp2
   go_ret
   rw [HNJ2.out]
   exact ⟨rfl, F3, A3, c3, vt3, us3, HJ3.out, HF3.out.2.1, HF3.out.2.2, HF3.out.1⟩
 ·have hd : decide (((logOf n - J.u : Nat) : Int) < (needOf tx.length : Int)) = false := by simp; omega
  have HR := kH hroom
  clear hroom
  refine x01 (j := 8) (by kernel_rfl) rfl (by rfl) ?_
  simp only [Act.put, nB, nC, nD, nE, nF, nG]
  refine x0B (v := .bool false) (w' := w1) (by go_simp; have := HR.out; omega) ⟨⟨HP1.out, HB01.out⟩, ?_⟩
  simp only [Act.put, nB, nC, nD, nE, nF, nG]
  refine x0V (by kernel_rfl) ?_
  refine NoPanic.normal ?_
  clear hd
  have hq1 : w1.cell? ⟨gq, 0, none⟩ = some (.pointer (some ⟨x.gj, 0, none⟩)) := HP1.out.cell 0
  have hjx1 := HJS.out.jx.below HB01.out
  have HA := kH (xCJ hjx1 HFI.out HSM.out (by omega) hn B cb tx ((HST.out.below HB01.out).more HB01.out.size) hl hlc hcm hne (HTAB.out w1 hjx1.bel) hw0 (fun q hq => ⟨Nat.lt_of_lt_of_le (HBF.out q hq).1 HB01.out.size, (HBF.out q hq).2⟩))
  have hnj : noteJ n J (putM M) tx = appJ n J tx := by unfold noteJ; rw [if_neg HR.out]
  have HNJ := kH hnj
  clear hjx1 hnj
  go_wp2_with fail
  refine HA.out.mono ?_
  rintro e w4 ⟨rfl, hjt⟩
  have HJT := kH hjt
  clear hjt HA
  generalize hev : errV (appJ n J tx).2 = ev
  have HEV := kH hev
  clear hev
  go_wp2
  go_ret
  rw [HNJ.out]
  exact ⟨by rw [HEV.out]; rfl, JTo.after HB01.out HJT.out⟩
end
end
section
open Go.RowKit Go.BigFrame
theorem JX.past {w0 w w' : World} {g gj n gen u c : Nat} {d : DM} {st : List Nat} {txs : List (List Nat)} {F : List Nat} {A : Option Addr} {vt : Value} {us : List Value} {G : List Nat} (h : JX w0 w g gj d n gen st txs u F A c vt us) (ho : Only G w w') (hG : ∀ k ∈ G, k ∉ jf gj vt F /\ Odd w 5 k /\ w0.heap.size <= k) : JX w0 w' g gj d n gen st txs u F A c vt us :=
 ⟨h.disk.of (fun k hk => ho.block k (h.disk.under k hk) (fun hm => (hG k hm).1 (by unfold jf; simp [hk]))), h.bel.trans (ho.below (fun k hk => (hG k hk).2.2) h.bel.size), fun k hk => ⟨Nat.lt_of_lt_of_le (h.sep k hk).1 ho.size, (h.sep k hk).2⟩,
  h.jb.of (ho.block gj h.jb.lt (fun hm => (hG _ hm).1 (by simp [jf]))), x12 h.own ho (fun k hk hm => by
   obtain ⟨cs, hb⟩ := x0G h.own (x00.1 hk)
   exact (hG k hm).2.1 cs hb),
  ⟨x12 h.tx.1 ho (fun k hk hm => (hG k hm).1 (by unfold jf; simp [hk])), h.tx.2.1, fun i t hi => by
   obtain ⟨B, c, e1, e2⟩ := h.tx.2.2 i t hi
   exact ⟨B, c, e1, x12 e2 ho (fun k hk hm => by
    obtain ⟨cs, hb⟩ := x0G e2 (x00.1 hk)
    exact (hG k hm).2.1 cs hb)⟩⟩, h.gjN⟩
theorem StoreAt.typed {w w' : World} {Z G : List Nat} {gs ms gp r c : Nat} {A : Option Addr} {M : Mod} {kv : KV} (h : StoreAt w Z gs ms gp r c A M kv) (ho : Only G w w') (hG : ∀ k ∈ G, ∃ t cs, Blk w k t cs /\ t ≠ 122 /\ t ≠ 190 /\ t ≠ 4 /\ t ≠ 137 /\ t ≠ 5 /\ t ≠ 198) : StoreAt w' Z gs ms gp r c A M kv :=
  ⟨h.st.typed ho (fun k hk => by obtain ⟨t, cs, hb, h1, h2, h3, _⟩ := hG k hk; exact ⟨t, cs, hb, h1, h2, h3⟩), xB4 h.obs ho (fun k hk => by obtain ⟨t, cs, hb, h1, h2, h3, h4⟩ := hG k hk; exact ⟨t, cs, hb, h4⟩)⟩
theorem JSo.did {w0 w w1 w' : World} {n n0 : Nat} {x : PX} {J : JS} {M : Mod} (h : JSo w0 w n x J M) (hb : Below w.heap.size w w1) (hI : Inv n0 M) {nm : List Nat} {xs : List StepV} {e : Ending} (hd : DoTo w1 x.Z x.gs x.ms x.gp x.r x.cs x.As M nm xs e w') :
  ∃ M' kk told v kv', DoR M nm xs M' kk told /\ e = .returned (.tuple #[v, errV kk]) /\ JSo w0 w' n {x with kv := kv'} J M' /\ ToldR w' w1.heap.size v told /\ Only (x.ms :: foot x.gp x.r M.fl) w w' /\ M'.fl.length = M.fl.length := by
 obtain ⟨hon, M', kk, told, v, kv', hr, hst, rfl, ht⟩ := hd
 obtain ⟨i1, i2, i3⟩ := x76 hI hr
 have h1 := h.below hb
 have hG : ∀ k ∈ x.ms :: foot x.gp x.r M.fl, k ∉ jf x.gj x.vt x.F /\ Odd w1 5 k /\ w0.heap.size <= k := fun k hk => by
  refine ⟨fun hm => ?_, h1.so.odd (by decide) (by decide) k hk, h.nw k hk⟩
  rcases h1.so.kinds hk with rfl | ⟨cs, _, hB⟩ | ⟨cs, _, _, hB⟩
  ·exact (h.zj _ hm).2 rfl
  ·exact h1.jx.odd (by decide) (by decide) (by decide) (by decide) k hm cs hB
  ·exact h1.jx.odd (by decide) (by decide) (by decide) (by decide) k hm cs hB
 refine ⟨M', kk, told, v, kv', hr, rfl, ⟨h1.jx.past hon hG, hst, fun k hk => ?_, h.gsN, h.zj, h.zm, fun z hz => Nat.lt_of_lt_of_le (h1.zu z hz) hon.size⟩, ht, (Only.of_below hb _).trans hon (Fresh.refl _ _), i2⟩
 have hk' : k ∈ x.ms :: foot x.gp x.r M'.fl := hk
 rw [x2Q i2] at hk'
 exact h.nw k hk'
structure PAt (w0 w : World) (n : Nat) (x : PX) (J : JS) (k : Nat) (M : Mod) : Prop where
 js : JSo w0 w n x J M
 pb : Blk w x.gq 113 (poolC x.gj x.gs false)
 gqN : w0.heap.size <= x.gq
 fine : JFine J.f n J.gen J.st J.txs J.u
 sm : JSm k J
 inv : Inv (16 * k) M
 ia : InvA (16 * k) M
 fl : M.fl.length <= 300
 n5 : n <= 500
 nn : InvN M
 rs : RiseM M
theorem PAt.below {w0 w w' : World} {n k : Nat} {x : PX} {J : JS} {M : Mod} (h : PAt w0 w n x J k M) (hb : Below w.heap.size w w') : PAt w0 w' n x J k M :=
  ⟨h.js.below hb, h.pb.below hb h.pb.lt, h.gqN, h.fine, h.sm, h.inv, h.ia, h.fl, h.n5, h.nn, h.rs⟩
theorem PAt.bel {w0 w : World} {n k : Nat} {x : PX} {J : JS} {M : Mod} (h : PAt w0 w n x J k M) : Below w0.heap.size w0 w := h.js.jx.bel
theorem PAt.more {w0 w : World} {n k k' : Nat} {x : PX} {J : JS} {M : Mod} (h : PAt w0 w n x J k M) (hk : k <= k') : PAt w0 w n x J k' M :=
  ⟨h.js, h.pb, h.gqN, h.fine, h.sm.mono hk, h.inv.mono (by omega), h.ia.mono (by omega), h.fl, h.n5, h.nn, h.rs⟩
theorem PAt.put {w0 w : World} {n k : Nat} {x : PX} {J : JS} {M : Mod} (h : PAt w0 w n x J k M) (hk : k <= 40) : (putM M).length <= 1000000 := by
 have h1 := xM2 h.inv h.ia
 have h2 := h.fl
 omega
def pfoot (x : PX) (M : Mod) : List Nat := x.gq :: ((x.ms :: foot x.gp x.r M.fl) ++ jf x.gj x.vt x.F)
inductive PDo (n : Nat) (J : JS) (M : Mod) (nm : List Nat) (xs : List StepV) : JS -> Mod -> Nat -> List (List Nat) -> Prop
 | read {M' : Mod} {kk : Nat} {told : List (List Nat)} : xs.any lastB = false -> DoR M nm xs M' kk told -> PDo n J M nm xs J M' kk told
 | bad {M' : Mod} {kk : Nat} {told : List (List Nat)} : xs.any lastB = true -> DoR M nm xs M' kk told -> kk ≠ 0 -> PDo n J M nm xs J M kk []
 | full {M' : Mod} {told : List (List Nat)} : xs.any lastB = true -> DoR M nm xs M' 0 told -> (noteJ n J (putM M) (opB nm xs)).2 ≠ 0 -> PDo n J M nm xs (noteJ n J (putM M) (opB nm xs)).1 M (noteJ n J (putM M) (opB nm xs)).2 []
 | done {M' : Mod} {told : List (List Nat)} : xs.any lastB = true -> DoR M nm xs M' 0 told -> (noteJ n J (putM M) (opB nm xs)).2 = 0 -> PDo n J M nm xs (noteJ n J (putM M) (opB nm xs)).1 M' 0 told
def PDoTo (w0 w : World) (n : Nat) (x : PX) (J : JS) (k : Nat) (M : Mod) (nm : List Nat) (xs : List StepV) (e : Ending) (w' : World) : Prop :=
  ∃ x' J' M' kk v told, PDo n J M nm xs J' M' kk told /\ e = .returned (.tuple #[v, errV kk]) /\ PAt w0 w' n x' J' (k + 1) M' /\ x'.gq = x.gq /\ x'.g = x.g /\ ToldR w' w.heap.size v told /\ Only (pfoot x M) w w' /\ Fresh w (pfoot x M) (pfoot x' M') /\ ∀ z ∈ x.Z, z ∈ x'.Z
theorem xA8 (w : World) (p : Addr) (cs : List Value) (hl : cs.length = 4) (hc : ∀ j v, cs[j]? = some v -> w.cell? (p.add j) = some v) : (loadVar 128 p).run Tryz.prog w = .ok (.agg cs.toArray) w := by
 have hl : (loadCells p 4).run Tryz.prog w = .ok cs.toArray w := by have := run_loadCells_list (P := Tryz.prog) w p cs hc; rwa [hl] at this
 have hagg : (isAgg 128).run Tryz.prog w = .ok true w := by
  unfold isAgg
  rw [Sem.run_bind, run_underlying Tryz.underlying128 w]
  rfl
 have hi : (Tryz.prog.info? 128).map (·.size) = some 4 := by kernel_rfl
 cases hq : Tryz.prog.info? 128 with
 | none => simp [hq] at hi
 | some i =>
  have hs : i.size = 4 := by simpa [hq] using hi
  simp [loadVar, Sem.run_bind, hagg, sizeOf, typeInfo, hq, hs, hl]
theorem x33 {a : Act} {o : Oper} {x : Operand} {w : World} {g : Nat} {cs : Array Value} (h4 : cs.size = 4) (ho : o.op = .load 128 x) (hx : a.eval x = .pointer (some ⟨g, 0, none⟩)) (h : Blk w g 128 cs) : (execOp a.eval o).run Tryz.prog w = .ok (.value (.agg cs)) w := by
 have hr := xA8 w ⟨g, 0, none⟩ cs.toList (by simpa using h4) (fun j v hj => by
  have : (⟨g, 0, none⟩ : Addr).add j = ⟨g, j, none⟩ := by simp [Addr.add]; intro h; exact h.symm
  rw [this, h.cell]
  simpa using hj)
 unfold execOp
 simp only [ho, hx, Instr.loadAt, Instr.sureAddr, Sem.run_bind, Sem.run_pure, Result.andThen_ok, hr]
theorem x1U {ops : Array Oper} {rest : List Oper} {op : Oper} {a : Act} {w : World} {Q : Exit -> Act -> World -> Prop} (hgd : op.guard = none) (x : Operand) (ho : op.op = .load 128 x) (g : Nat) (hx : a.eval x = .pointer (some ⟨g, 0, none⟩)) (cs : Array Value) (h4 : cs.size = 4) (hb : Blk w g 128 cs)
  (h : wpList Tryz.prog ops Q rest (a.put op.dst (.agg cs)) w) : wpList Tryz.prog ops Q (op :: rest) a w :=
 wpList_plain hgd fun _ hK => by
  unfold Oper.wp
  rw [x33 h4 ho hx hb]
  exact hK _ _ h
section
variable {w0 w : World} {n k : Nat} {x : PX} {J : JS} {M : Mod}
set_option maxHeartbeats 8000000 in
theorem xLJ (h : PAt w0 w n x J k M) (hk : k <= 40) {B cs : Nat} {As : Option Addr} {l : List SV} (nm : List Nat) (hsm : Small nm) (hnm : nm.length <= 1000000) (hl : StepsR w B As l) (hB : B <= w.heap.size) (hll : l.length <= cs) (hl6 : l.length <= 1000000) (hno : (l.map SV.x).any lastB = false) :
  Calls Tryz.prog 62 #[.pointer (some ⟨x.gq, 0, none⟩), .agg (chC 1 nm As l.length cs 0)] w (PDoTo w0 w n x J k M nm (l.map SV.x)) := by
 obtain ⟨w1, hw1⟩ : ∃ w1, w1 = w.alloc (.cells (chC 1 nm As l.length cs 0) 128) := ⟨_, rfl⟩
 have hb1 : Below w.heap.size w w1 := by rw [hw1]; exact x06 _ _
 have K1 : Blk w1 w.heap.size 128 (chC 1 nm As l.length cs 0) := by rw [hw1]; exact Blk.new _ _ _
 have hp1 := h.pb.below hb1 h.pb.lt
 have q2 : w1.cell? ⟨x.gq, 2, none⟩ = some (.bool false) := hp1.cell 2
 have HLA := kH (xDL nm (hl.since hb1) (Nat.le_trans hB hb1.size) hl6 (cs := cs))
 rw [hno] at HLA
 have HH := kH h
 have HL := kH hl
 have HW1 := kH hw1
 have HB1 := kH hb1
 have HK1 := kH K1
 have HP1 := kH hp1
 have HNO := kH hno
 clear hw1 hb1 h hl hp1 hno
 have hKk := HK1.out
 go_enter Tryz.func62, Tryz.ntmps62
 go_wp2_with (first | rw [<- HW1.out] | (refine x1U rfl (.tmp 3) rfl w.heap.size rfl (chC 1 nm As l.length cs 0) rfl HK1.out ?_))
 refine HLA.out.mono ?_
 rintro e w2 ⟨rfl, hb2⟩
 have HB2 := kH hb2
 have hS2 : Blk w2.drew x.gq 113 (poolC x.gj x.gs false) /\ Blk w2.drew w.heap.size 128 (chC 1 nm As l.length cs 0) := ⟨(HP1.out.below hb2 HP1.out.lt).drew, (K1.below hb2 K1.lt).drew⟩
 have hbd : Below w.heap.size w w2.drew := (HB1.out.trans (hb2.mono HB1.out.size)).trans ((x08 (Below.refl _ _) 1).mono (Nat.le_trans HB1.out.size hb2.size))
 have HBD := kH hbd
 clear hb2 hKk hbd
 go_upto_region 6 with (fail)
 refine x09 (fun w' => Blk w' x.gq 113 (poolC x.gj x.gs false) /\ Blk w' w.heap.size 128 (chC 1 nm As l.length cs 0)) 9 (by kernel_rfl) ?_
 refine tL (i := 0) (v := .agg (chC 1 nm As l.length cs 0)) rfl rfl (by kernel_rfl) (by rfl) (fun w hw => x33 rfl rfl rfl hw.2) hS2 ?_
 simp only [Act.put, nB, nC, nD, nE, nF, nG]
 refine tL (i := 1) (v := .pointer (some ⟨x.gq, 0, none⟩)) rfl rfl (by kernel_rfl) (by rfl) (fun w hw => by kernel_rfl) hS2 ?_
 simp only [Act.put, nB, nC, nD, nE, nF, nG]
 refine tL (i := 2) (v := .pointer (some ⟨x.gq, 0, none⟩)) rfl rfl (by kernel_rfl) (by rfl) (fun w hw => by kernel_rfl) hS2 ?_
 simp only [Act.put, nB, nC, nD, nE, nF, nG]
 refine tL (i := 3) (v := .pointer (some ⟨x.gq, 1, none⟩)) rfl rfl (by kernel_rfl) (by rfl) (fun w hw => by go_simp) hS2 ?_
 simp only [Act.put, nB, nC, nD, nE, nF, nG]
 refine tL (i := 4) (v := .pointer (some ⟨x.gs, 0, none⟩)) rfl rfl (by kernel_rfl) (by rfl) (fun w hw => by have q : w.cell? ⟨x.gq, 1, none⟩ = some (.pointer (some ⟨x.gs, 0, none⟩)) := hw.1.cell 1; go_simp) hS2 ?_
 simp only [Act.put, nB, nC, nD, nE, nF, nG]
 have hj2 := HH.out.js.below HBD.out
 have hcd := xCX hj2.so hj2.zm hj2.zu HH.out.inv (by omega) nm hsm hnm (HL.out.since HBD.out) (Nat.le_trans hB HBD.out.size) hll hl6
 refine x01 (j := 5) (by kernel_rfl) rfl (by rfl) ?_
 simp only [Act.put, nB, nC, nD, nE, nF, nG]
 refine x03 (by kernel_rfl) hcd ?_
 rintro e w4 ⟨w3, hb3, hdo⟩
 obtain ⟨M', kk, told, v, kv', hr, rfl, hj4, ht4, hon4, hfl4⟩ := hj2.did hb3 HH.out.inv hdo
 have hp4 : Blk w4 x.gq 113 (poolC x.gj x.gs false) := hS2.1.of (hon4.block _ hS2.1.lt (x1N hS2.1 (hj2.so.odd (by decide) (by decide))))
 have hk4 : Blk w4 w.heap.size 128 (chC 1 nm As l.length cs 0) := hS2.2.of (hon4.block _ hS2.2.lt (x1N hS2.2 (hj2.so.odd (by decide) (by decide))))
 have hfin : PDoTo w0 w n x J k M nm (l.map SV.x) (.returned (.tuple #[v, errV kk])) w4 := by
  have hh := HH.out
  obtain ⟨i1, i2, i3⟩ := x76 hh.inv hr
  have hbs := HBD.out.size
  have hon : Only (x.ms :: foot x.gp x.r M.fl) w w4 := (Only.of_below HBD.out _).trans hon4 (Fresh.refl _ _)
  refine ⟨_, J, M', kk, v, told, .read HNO.out hr, rfl, ⟨hj4, hp4, hh.gqN, hh.fine, hh.sm.mono (by omega), i1.mono (by omega), (xA9 hh.inv.keys hh.ia hr).mono (by omega), by rw [hfl4]; exact hh.fl, hh.n5, xAJ hh.nn hr, xAD hh.rs hr⟩, rfl, rfl, ?_, hon.mono (fun q hq => List.mem_cons_of_mem _ (List.mem_append_left _ hq)), fun q hq => .inl ?_, fun z hz => hz⟩
  ·obtain ⟨T, ct, tv, e, h1, h2⟩ := ht4
   have hle : w.heap.size <= w3.heap.size := Nat.le_trans hbs hb3.size
   exact ⟨T, ct, tv, e, x0A h1 hle, h2.imp fun a b hx => hx.weaken hle⟩
  ·unfold pfoot at hq ⊢
   rw [x2Q hfl4] at hq
   exact hq
 have HFIN := kH hfin
 clear hfin hj4 ht4 hon4 hfl4 hdo hcd hj2 hb3
 refine ⟨_, rfl, ⟨hp4, hk4⟩, ?_⟩
 simp only [Act.put, nB, nC, nD, nE, nF, nG]
 generalize hev : errV kk = ev at HFIN
 refine tL (i := 6) (v := v) rfl rfl (by kernel_rfl) (by rfl) (fun w hw => by kernel_rfl) ⟨hp4, hk4⟩ ?_
 simp only [Act.put, nB, nC, nD, nE, nF, nG]
 refine tL (i := 7) (v := ev) rfl rfl (by kernel_rfl) (by rfl) (fun w hw => by subst hev; kernel_rfl) ⟨hp4, hk4⟩ ?_
 simp only [Act.put, nB, nC, nD, nE, nF, nG]
 refine x01 (j := 8) (by kernel_rfl) rfl (by rfl) ?_
 simp only [Act.put, nB, nC, nD, nE, nF, nG]
 refine x0B (v := v) (w' := w4) (by kernel_rfl) ⟨⟨hp4, hk4⟩, ?_⟩
 simp only [Act.put, nB, nC, nD, nE, nF, nG]
 refine x1V (by kernel_rfl) rfl (by rfl) (by kernel_rfl) ?_
 simp only [Act.put, nB, nC, nD, nE, nF, nG]
 refine x0B (v := ev) (w' := w4) (by kernel_rfl) ?_
 refine NoPanic.normal ?_
 simp only [Act.put, nB, nC, nD, nE, nF, nG]
 clear hp4 hk4 hS2
 go_wp2
 go_ret2
 exact HFIN.out
end
end
end Go.Proofs.YtajajlbeiikcmaaGreatDoor
