/-
  A store's object is put. Conditions: the store lies where it is said to; the text is not too long.
-/
import Derived.Test.YtfbpfgbmlbkffaaGreatZi
import Derived.Test.YtfbpfgbmlbkffaaGreatSchC
namespace Go.Proofs.YtfbpfgbmlbkffaaGreat
open Go.RowKit Go.BigFrame
set_option linter.unusedSimpArgs false
set_option linter.unusedVariables false
set_option maxRecDepth 100000
def txB (bs : List Nat) : List Nat := numB bs.length ++ bs
theorem txB_len (bs : List Nat) : (txB bs).length = 8 + bs.length := by simp [txB, numB_len]
def putA (q : Key × List Nat) : List Nat := txB (keyL q.1) ++ txB q.2
def putE (e : Nat × Nat) : List Nat := numB e.1 ++ numB e.2
def putO (nm : List Nat) (o : Ob) : List Nat := txB nm ++ (txB o.d ++ (numB o.a.length ++ ((atL o.a (srt (o.a.map (·.1)))).flatMap putA ++ (numB o.e.length ++ o.e.flatMap putE))))
theorem atL_len (a : AL) (l : List Key) : (atL a l).length = l.length := List.length_map _
theorem keyV_L (k : Key) : keyV k = .string (strOf (keyL k)) := keyL_val k
theorem keyL_small (k : Key) : ∀ b ∈ keyL k, b < 256 := fun b hb => by
  obtain ⟨x, _, rfl⟩ := List.mem_map.1 hb
  exact x.toNat_lt
/-- a writer that is new since w0 leaves w0's blocks as they were -/
theorem WTo.bel {w0 w w' : World} {F : List Nat} {p : Option Addr} {bs bs' : List Nat} (hb : Below w0.heap.size w0 w) (hw : Wr w w0.heap.size F p bs) (h : WTo w w0.heap.size F p bs' w') : Below w0.heap.size w0 w' := by
  obtain ⟨F', _, ho, _⟩ := h
  exact hb.trans (ho.below hw.over hb.size)
theorem run_loadVar_attr (w : World) (p : Addr) (s : Key × Value) (hc : ∀ j v, (atC s)[j]? = some v → w.cell? (p.add j) = some v) : (loadVar 78 p).run Tryz.prog w = .ok (.agg (atC s).toArray) w := by
  have hl : (loadCells p 2).run Tryz.prog w = .ok (atC s).toArray w := run_loadCells_list (P := Tryz.prog) w p (atC s) hc
  have hagg : (isAgg 78).run Tryz.prog w = .ok true w := by
    unfold isAgg
    rw [Sem.run_bind, run_underlying Tryz.underlying78 w]
    rfl
  have hi : (Tryz.prog.info? 78).map (·.size) = some 2 := by kernel_rfl
  cases hq : Tryz.prog.info? 78 with
  | none => simp [hq] at hi
  | some i =>
    have hs : i.size = 2 := by simpa [hq] using hi
    simp [loadVar, Sem.run_bind, hagg, sizeOf, typeInfo, hq, hs, hl]
theorem wpList_load_attr {ops : Array Oper} {rest : List Oper} {op : Oper} {a : Act} {w : World} {Q : Exit → Act → World → Prop} (hgd : op.guard = none) (x : Operand) (ho : op.op = .load 78 x)
    (p : Addr) (hx : a.eval x = .pointer (some p)) (nm : List Nat) (u : Value) (hc0 : w.cell? p = some (.string (strOf nm))) (hc1 : w.cell? (p.add 1) = some u)
    (h : wpList Tryz.prog ops Q rest (a.put op.dst (.agg #[.string (strOf nm), u])) w) : wpList Tryz.prog ops Q (op :: rest) a w :=
  wpList_plain hgd fun _ hK => by
    have hl := run_loadVar_attr w p (keyB nm, u) (fun j v hj => by
      unfold atC at hj
      rw [keyB_val] at hj
      match j, hj with
      | 0, hj => simp at hj; subst hj; simpa [Addr.add] using hc0
      | 1, hj => simp at hj; subst hj; exact hc1
      | j + 2, hj => simp at hj)
    have e : (atC (keyB nm, u)).toArray = #[.string (strOf nm), u] := by unfold atC; rw [keyB_val]
    rw [e] at hl
    unfold Oper.wp execOp
    simp only [ho, hx, Instr.loadAt, Instr.sureAddr, Sem.run_bind, Sem.run_pure, Result.andThen_ok, hl]
    exact hK _ _ h
theorem WTo.then_ {w w1 w2 : World} {base : Nat} {F : List Nat} {p : Option Addr} {bs : List Nat} (h : WTo w base F p bs w1) (hb : Below w1.heap.size w1 w2) : WTo w base F p bs w2 := by
  obtain ⟨F', h1, h2, h3⟩ := h
  exact ⟨F', h1.below hb, h2.trans (Only.of_below hb F') h3, h3⟩
theorem at_get {W : World} {B c n : Nat} {A : Option Addr} {l : List (Key × Value)} (h : W.ownsRow B 78 2 (.slice A n c) n (l.flatMap atC)) {k : Nat} {p : Key × Value} (hk : l[k]? = some p) (hn : k < n) : ∃ ad, A = some ad ∧ ad.block < W.heap.size ∧ W.cell? (ad.add (k * 2)) = some (keyV p.1) ∧ W.cell? ((ad.add (k * 2)).add 1) = some p.2 := by
  obtain ⟨ad, e, hb, hc⟩ := (Reads.of_own h).2 (by omega)
  have c0 := hc (k * 2 + 0) (keyV p.1) (by rw [flat_at atC 2 atC_len l k 0 p hk (by omega)]; rfl)
  have c1 := hc (k * 2 + 1) p.2 (by rw [flat_at atC 2 atC_len l k 1 p hk (by omega)]; rfl)
  exact ⟨ad, e, hb, c0, by rw [add_of_add]; exact c1⟩
theorem extE_at {W : World} {B c : Nat} {E : Option Addr} {es : List (Nat × Nat)} (h : OwnE W B (.slice E es.length c) (natE es)) {p : Nat} {e : Nat × Nat} (hp : es[p]? = some e) : ∃ ad, E = some ad ∧ ad.block < W.heap.size ∧ W.cell? (ad.add (p * 2)) = some (.int .i64 (e.1 : Int)) ∧ W.cell? ((ad.add (p * 2)).add 1) = some (.int .i64 (e.2 : Int)) := by
  have hl := (List.getElem?_eq_some_iff.1 hp).1
  have hE : ExtR W W.heap.size E (natE es) := OwnE.ext (by rw [natE_len]; exact h)
  obtain ⟨ad, q, e1, hb, he, c0, c1⟩ := hE.get (k := p) (by rw [natE_len]; exact hl)
  simp only [natE, List.getElem?_map, hp, Option.map_some] at he
  injection he with he
  subst he
  exact ⟨ad, e1, hb, c0, c1⟩
set_option maxHeartbeats 16000000 in
theorem put_obj {w0 w : World} {Z : List Nat} {gs ms gp r c : Nat} {A : Option Addr} {M : Mod} {kv : KV} (h0 : StoreAt w0 Z gs ms gp r c A M kv) (hb : Below w0.heap.size w0 w) {F : List Nat} {g : Nat} {bs : List Nat} (hw : Wr w w0.heap.size F (some ⟨g, 0, none⟩) bs)
    (nm : List Nat) (hsm : Small nm) (hnl : nm.length ≤ 1000) {o : Ob} (hg : gget M.ob (keyB nm) = some o) (hd : o.d.length ≤ 65536) (ha : o.a.length ≤ 1000000) (he : o.e.length ≤ 1000000) (hv : ∀ q ∈ o.a, q.2.length ≤ 65536) (hlen : bs.length + (putO nm o).length ≤ 4000000) :
    Calls Tryz.prog 49 #[.pointer (some ⟨gs, 0, none⟩), .pointer (some ⟨g, 0, none⟩), .string (strOf nm)] w fun e w' => e = .returned (.tuple #[]) ∧ WTo w w0.heap.size F (some ⟨g, 0, none⟩) (bs ++ putO nm o) w' := by
  rcases h0.obs.get ObjR.key (keyB nm) with ⟨_, h2⟩ | ⟨v, u, h1, h2, -, go, mb, c1, ce, D, E, kv1, e, -, hat⟩
  · rw [hg] at h2; cases h2
  have hg' := hg
  rw [hg] at h2
  injection h2 with h2
  subst h2
  have hvv : aget kv (keyB nm) = some (.pointer (some ⟨go, 0, none⟩)) := by rw [h1]; exact congrArg some e
  have q0 : w.cell? ⟨gs, 0, none⟩ = some (.map (some ms)) := (h0.st.below hb).c0
  have hz : (zeroValue 109).run Tryz.prog w = .ok (.pointer none) w := by kernel_rfl
  have hlk := run_lookup_smap (P := Tryz.prog) (t := 64) (et := 109) Tryz.underlying9 Tryz.underlying64 hz (h0.st.below hb).map (keyB nm) (by simp [keyB, maxLen]; omega)
  rw [keyB_val, hvv, Option.getD_some] at hlk
  unfold putO at hlen ⊢
  simp only [List.length_append, txB_len, numB_len] at hlen
  have HLEN := Lib.hid hlen
  have H0 := Lib.hid (And.intro h0 hg')
  have HA := Lib.hid hat
  have HV := Lib.hid hv
  have HC : Hid (∀ w', Below w0.heap.size w0 w' → w'.cell? ⟨go, 0, none⟩ = some (.slice D o.d.length c1) ∧ w'.cell? ⟨go, 1, none⟩ = some (.map (some mb)) ∧ w'.cell? ⟨go, 2, none⟩ = some (.slice E o.e.length ce)) := Lib.hid fun w' h => ⟨(hat.below h).blk.cell 0, (hat.below h).blk.cell 1, (hat.below h).blk.cell 2⟩
  have HML : Hid (∀ w', Below w0.heap.size w0 w' → ∀ (t : TypeId), True) := Lib.hid fun _ _ _ => trivial
  have HT1 := Lib.hid (wtext_any w w0.heap.size F (some ⟨g, 0, none⟩) bs nm hw hsm (by omega) hb.size)
  have HB := Lib.hid (And.intro hb hw)
  clear h0 hg hg' hat h1 e hvv hv hb hw hlen
  go_enter Tryz.func49, Tryz.ntmps49
  go_wp2_with fail
  refine HT1.out.mono ?_
  rintro e w1 ⟨rfl, hw1⟩
  have hb1 := WTo.bel HB.out.1 HB.out.2 hw1
  obtain ⟨F1, hW1, ho1, hf1⟩ := hw1
  obtain ⟨t1, ht1⟩ : ∃ t1, t1 = bs ++ txB nm := ⟨_, rfl⟩
  have hW1' : Wr w1 w0.heap.size F1 (some ⟨g, 0, none⟩) t1 := by rw [ht1]; exact hW1
  have hl1 : t1.length = bs.length + (8 + nm.length) := by rw [ht1, List.length_append, txB_len]
  obtain ⟨c0, c1', c2'⟩ := HC.out w1 hb1
  have HT2 := Lib.hid (wbytes_any w1 w0.heap.size F1 (some ⟨g, 0, none⟩) t1 o.d w0.heap.size D o.d.length c1 hW1' ((HA.out.bytes).since hb1) (fun a ea h0' hm => by
    obtain ⟨ad, ea', hab, _⟩ := HA.out.bytes.1.2 (by omega)
    rw [ea'] at ea
    injection ea with ea
    subst ea
    have := hW1'.over _ hm
    omega) (by have := HLEN.out; omega) hb1.size)
  have HT1E := Lib.hid ht1
  have H1 := Lib.hid (And.intro ho1 (And.intro hf1 (And.intro hb1 (And.intro hW1' (And.intro ht1 hl1)))))
  clear ho1 hf1 hb1 hW1 hW1' ht1 hl1 HT1 hlk q0
  go_wp2_with fail
  refine HT2.out.mono ?_
  rintro e w2 ⟨rfl, hw2⟩
  have hb2 := WTo.bel H1.out.2.2.1 H1.out.2.2.2.1 hw2
  have hw2' := WTo.after H1.out.1 H1.out.2.1 hw2
  obtain ⟨F2, hW2, ho2, hf2⟩ := hw2'
  obtain ⟨t2, ht2⟩ : ∃ t2, t2 = t1 ++ txB o.d := ⟨_, rfl⟩
  have hW2' : Wr w2 w0.heap.size F2 (some ⟨g, 0, none⟩) t2 := by rw [ht2]; exact hW2
  have hl2 : t2.length = bs.length + (8 + nm.length) + (8 + o.d.length) := by rw [ht2, List.length_append, txB_len, H1.out.2.2.2.2.2]
  obtain ⟨c0, c1', c2'⟩ := HC.out w2 hb2
  have HM : Hid (∀ w', Below w0.heap.size w0 w' → SMap Tryz.prog 9 w' mb kv1) := Lib.hid fun w' h => (HA.out.below h).map
  have hmap2 := HM.out w2 hb2
  have hkl : kv1.length = o.a.length := HA.out.att.len
  have hml : ∀ ty, (Builtin.len_ #[97] ty #[.map (some mb)]).run Tryz.prog w2 = .ok (.int .i64 o.a.length) w2 := fun ty => by
    have := World.ownsMap.len hmap2.owns (t := 97) Tryz.underlying97 ty
    rw [size_enc, hkl] at this
    exact this
  have HT3 := Lib.hid (wnum_any w2 w0.heap.size F2 (some ⟨g, 0, none⟩) t2 o.a.length hW2' (by have := HLEN.out; omega) hb2.size)
  have H2 := Lib.hid (And.intro ho2 (And.intro hf2 (And.intro hb2 (And.intro hW2' (And.intro ht2 hl2)))))
  clear ho2 hf2 hb2 hW2 hW2' ht2 hl2 HT2 hw2 hmap2 hkl H1
  go_wp2_with fail
  refine HT3.out.mono ?_
  rintro e w3 ⟨rfl, hw3⟩
  have hw3' := WTo.after H2.out.1 H2.out.2.1 hw3
  have hb3 := WTo.bel HB.out.1 HB.out.2 hw3'
  have HX := Lib.hid ((H0.out.1.below hb3).attrs2 nm (by omega) H0.out.2 ha HV.out)
  have HB3 := Lib.hid (And.intro hb3 hw3')
  clear hw3 hw3' hb3 HT3
  go_wp2_with fail
  refine HX.out.mono ?_
  rintro e w4 ⟨AL, cL, l, rfl, hrow, hrl, hb34⟩
  obtain ⟨t3, ht3⟩ : ∃ t3, t3 = t2 ++ numB o.a.length := ⟨_, rfl⟩
  have hl3 : t3.length = bs.length + (8 + nm.length) + (8 + o.d.length) + 8 := by rw [ht3, List.length_append, numB_len, H2.out.2.2.2.2.2]
  obtain ⟨F3, hW3, ho3, hf3⟩ := HB3.out.2
  have hu3 := hW3.under
  have hW4 : Wr w4 w0.heap.size F3 (some ⟨g, 0, none⟩) t3 := by rw [ht3]; exact hW3.below hb34
  have ho4 : Only F w w4 := ho3.trans (Only.of_below hb34 F3) hf3
  obtain ⟨L, hL⟩ : ∃ L, L = atL o.a (srt (o.a.map (·.1))) := ⟨_, rfl⟩
  rw [← hL] at hrl
  have hLl : L.length = o.a.length := by rw [hL, atL_len, srt_len, List.length_map]
  have hll : l.length = o.a.length := by rw [hrl.len, hLl]
  have hlT : t3.length + (L.flatMap putA).length + 8 + (o.e.flatMap putE).length ≤ 4000000 := by
    have := HLEN.out
    rw [← hL] at this
    omega
  have hs34 := hb34.size
  have hs04 : w0.heap.size ≤ w3.heap.size := HB3.out.1.size
  have H4 := Lib.hid (And.intro hW4 (And.intro ho4 (And.intro hf3 (And.intro hu3 (And.intro hrow (And.intro hrl (And.intro ht3 hL)))))))
  have HLT := Lib.hid (And.intro hlT (And.intro hLl hll))
  clear hrow hrl hb34 ht3 hl3 hW3 ho3 hf3 hu3 hW4 ho4 hL hLl hll hlT HX
  go_wp2_with fail
  go_loopw [37] (fun iv wr => ∃ k : Nat, k ≤ o.a.length ∧ iv = .int .i64 k ∧ WTo w4 w0.heap.size F3 (some ⟨g, 0, none⟩) (t3 ++ (L.take k).flatMap putA) wr) (fun iv _ => o.a.length - (intS iv).toNat)
  case atStart => exact ⟨0, by omega, rfl, F3, by simpa using H4.out.1, Only.refl _ _, Fresh.refl _ _⟩
  case round =>
    obtain ⟨k, hk, rfl, F', hW', ho', hf'⟩ := hrel
    obtain ⟨wq, hwq⟩ : ∃ wq, wq = wr := ⟨_, rfl⟩
    subst hwq
    have hwk : IntKind.i64.wrap ((k : Int) + 1) = (k : Int) + 1 := by rw [IntKind.wrap_i64]; omega
    have hs4q := ho'.size
    by_cases hlt : k < o.a.length
    -- {A
    · obtain ⟨p, hp⟩ : ∃ p, l[k]? = some p := ⟨_, List.getElem?_eq_getElem (by rw [HLT.out.2.2]; exact hlt)⟩
      obtain ⟨q, hq, hpq, Av, cv, hpv, hov, hsv, -⟩ := H4.out.2.2.2.2.2.1.at_ hp
      obtain ⟨hft, post, hfp⟩ := flat_take putA hq
      have hover := row_over H4.out.2.2.2.2.1
      have hrowq := own_only H4.out.2.2.2.2.1 ho' (fun j hj hm => by have := hover j hj; have := H4.out.2.2.2.1 j hm; omega)
      obtain ⟨ad, rfl, hab, hc0, hc1⟩ := at_get hrowq hp hlt
      rw [hpq, keyV_L] at hc0
      rw [hpv] at hc1 hov
      have hlen2 : (t3 ++ (L.take k).flatMap putA).length + (8 + (keyL q.1).length) + (8 + q.2.length) ≤ 4000000 := by
        have h1 := HLT.out.1
        rw [hfp] at h1
        simp only [List.length_append, putA, txB_len] at h1 ⊢
        omega
      have hovq := own_only hov ho' (fun j hj hm => by have := row_over hov j hj; have := H4.out.2.2.2.1 j hm; omega)
      have hsep : ∀ j ∈ rowOf (.slice Av q.2.length cv), j ∉ F' := fun j hj hm => by
        have h1 := row_over hov j hj
        have h2 := row_under hov j hj
        rcases hf' j hm with h3 | h3
        · have := H4.out.2.2.2.1 j h3; omega
        · omega
      obtain ⟨nq, hnq⟩ : ∃ nq, nq = keyL q.1 := ⟨_, rfl⟩
      rw [← hnq] at hc0 hlen2
      have hnqs : Small nq := by rw [hnq]; exact keyL_small _
      obtain ⟨tk, htk⟩ : ∃ tk, tk = t3 ++ (L.take k).flatMap putA := ⟨_, rfl⟩
      rw [← htk] at hlen2 hW'
      obtain ⟨wB, hwB⟩ : ∃ wB, wB = wq.alloc (.cells #[.string (strOf nq), .slice Av q.2.length cv] 78) := ⟨_, rfl⟩
      obtain ⟨gB, hgB⟩ : ∃ gB, gB = wq.heap.size := ⟨_, rfl⟩
      have hbB : Below wq.heap.size wq wB := by rw [hwB]; exact below_alloc_x _ _
      have KB : Blk wB gB 78 #[.string (strOf nq), .slice Av q.2.length cv] := by rw [hwB, hgB]; exact Blk.new _ _ _
      have hsB := hbB.size
      have hgBF : gB ∉ F' := fun hm => by have := hW'.under _ hm; omega
      have HT4 := Lib.hid (wtext_any wB w0.heap.size F' (some ⟨g, 0, none⟩) tk nq (hW'.below hbB) hnqs (by omega) (by omega))
      have k0 : wB.cell? ⟨gB, 0, none⟩ = some (.string (strOf nq)) := KB.cell 0
      have hgl := KB.lt
      have HWB := Lib.hid hwB
      have HGB := Lib.hid hgB
      have HQ := Lib.hid (And.intro hW' (And.intro ho' (And.intro hf' (And.intro hbB (And.intro KB (And.intro hgBF (And.intro hovq (And.intro hsep (And.intro hsv (And.intro hft (And.intro hnq (And.intro htk hlen2))))))))))))
      have HROW := Lib.hid (And.intro hov hs4q)
      clear hp hq hpq hpv hov hsv hft hfp hover hrowq hovq hsep hlen2 hW' ho' hf' hbB KB hgBF hnqs hwB hgB hnq htk
      go_wp2_with (have _h := hc0; refine wpList_load_attr rfl (.tmp 39) rfl _ rfl nq _ hc0 hc1 ?_; clear _h hc0 hc1)
      rw [← HWB.out, ← HGB.out]
      refine HT4.out.mono ?_
      rintro e w5 ⟨rfl, F5, hW5, ho5, hf5⟩
      have hW5' : Wr w5 w0.heap.size F5 (some ⟨g, 0, none⟩) (tk ++ txB nq) := hW5
      have k1 : w5.cell? ⟨gB, 1, none⟩ = some (.slice Av q.2.length cv) := (HQ.out.2.2.2.2.1.of (ho5.block _ hgl HQ.out.2.2.2.2.2.1)).cell 1
      have hov5 := own_only (row_of HQ.out.2.2.2.2.2.2.1 fun j hj => HQ.out.2.2.2.1.block j (row_under HQ.out.2.2.2.2.2.2.1 j hj)) ho5 HQ.out.2.2.2.2.2.2.2.1
      have hs5 := ho5.size
      have hgl5 : gB < w5.heap.size := by omega
      have HT5 := Lib.hid (wbytes_any w5 w0.heap.size F5 (some ⟨g, 0, none⟩) (tk ++ txB nq) q.2 w5.heap.size Av q.2.length cv hW5' (Own.bytes hov5 HQ.out.2.2.2.2.2.2.2.2.1) (fun a ea h0' hm => by
        have hj : a.block ∈ rowOf (.slice Av q.2.length cv) := mem_rowOf.2 (by rw [ea]; rfl)
        rcases hf5 _ hm with h3 | h3
        · exact HQ.out.2.2.2.2.2.2.2.1 _ hj h3
        · have := row_under HROW.out.1 _ hj; omega) (by rw [List.length_append, txB_len]; have := HQ.out.2.2.2.2.2.2.2.2.2.2.2.2; omega) (by omega))
      have H5 := Lib.hid (And.intro ho5 hf5)
      clear hW5 hW5' hov5 HT4 ho5 hf5 k0
      go_wp2_with fail
      refine HT5.out.mono ?_
      rintro e w6 ⟨rfl, hw6⟩
      have hfin := WTo.after HQ.out.2.1 HQ.out.2.2.1 (WTo.since HQ.out.2.2.2.1 (WTo.after H5.out.1 H5.out.2 hw6))
      have htx : plus (some ⟨g, 0, none⟩) (tk ++ txB nq) (numB q.2.length ++ q.2) = t3 ++ (L.take (k + 1)).flatMap putA := by
        rw [HQ.out.2.2.2.2.2.2.2.2.2.1, HQ.out.2.2.2.2.2.2.2.2.2.2.2.1]
        show t3 ++ (L.take k).flatMap putA ++ txB nq ++ txB q.2 = _
        rw [HQ.out.2.2.2.2.2.2.2.2.2.2.1]
        simp [putA]
      rw [htx] at hfin
      have HFIN := Lib.hid hfin
      clear hfin htx hw6 HT5
      go_wp2_with fail
      go_roundw
      case rel => exact ⟨k + 1, by omega, by go_num, HFIN.out⟩
      case measure => simp [intS]; omega
    -- A}
    · obtain rfl : k = o.a.length := by omega
      have hwq := WTo.after H4.out.2.1 H4.out.2.2.1 ⟨F', hW', ho', hf'⟩
      rw [List.take_of_length_le (by rw [HLT.out.2.1]; omega)] at hwq
      clear hW' ho' hf'
      have hbq := WTo.bel HB.out.1 HB.out.2 hwq
      obtain ⟨c0, c1', c2'⟩ := HC.out wq hbq
      obtain ⟨F6, hW6, ho6, hf6⟩ := hwq
      obtain ⟨t6, ht6⟩ : ∃ t6, t6 = t3 ++ L.flatMap putA := ⟨_, rfl⟩
      rw [← ht6] at hW6
      have hl6 : t6.length + 8 + (o.e.flatMap putE).length ≤ 4000000 := by rw [ht6, List.length_append]; have := HLT.out.1; omega
      have HT6 := Lib.hid (wnum_any wq w0.heap.size F6 (some ⟨g, 0, none⟩) t6 o.e.length hW6 (by omega) hbq.size)
      have H6 := Lib.hid (And.intro ho6 (And.intro hf6 (And.intro hbq (And.intro hW6 ht6))))
      clear ho6 hf6 hbq hW6 ht6
      go_wp2_with fail
      refine HT6.out.mono ?_
      rintro e w7 ⟨rfl, hw7⟩
      obtain ⟨t7, ht7⟩ : ∃ t7, t7 = t6 ++ numB o.e.length := ⟨_, rfl⟩
      have hw7' : WTo w w0.heap.size F (some ⟨g, 0, none⟩) t7 w7 := by rw [ht7]; exact WTo.after H6.out.1 H6.out.2.1 hw7
      have hl7 : t7.length + (o.e.flatMap putE).length ≤ 4000000 := by rw [ht7, List.length_append, numB_len]; omega
      have hb7 := WTo.bel HB.out.1 HB.out.2 hw7'
      obtain ⟨c0, c1', c2''⟩ := HC.out w7 hb7
      have HW7 := Lib.hid (And.intro hw7' (And.intro hb7 ht7))
      clear hw7 hw7' ht7 hb7 HT6 c0 c1'
      go_wp2_with fail
      go_loopw [62] (fun iv wr => ∃ k : Nat, k ≤ o.e.length ∧ iv = .int .i64 k ∧ WTo w w0.heap.size F (some ⟨g, 0, none⟩) (t7 ++ (o.e.take k).flatMap putE) wr) (fun iv _ => o.e.length - (intS iv).toNat)
      case atStart => exact ⟨0, by omega, rfl, by simpa using HW7.out.1⟩
      case round =>
        obtain ⟨k, hk, rfl, hwt⟩ := hrel
        obtain ⟨wq, hwq⟩ : ∃ wq, wq = wr := ⟨_, rfl⟩
        subst hwq
        have hwk : IntKind.i64.wrap ((k : Int) + 1) = (k : Int) + 1 := by rw [IntKind.wrap_i64]; omega
        by_cases hlt : k < o.e.length
        -- {E
        · obtain ⟨ex, ey, hpe⟩ : ∃ ex ey, o.e[k]? = some (ex, ey) := ⟨_, _, List.getElem?_eq_getElem hlt⟩
          obtain ⟨hft, post, hfp⟩ := flat_take putE hpe
          have hbq := WTo.bel HB.out.1 HB.out.2 hwt
          obtain ⟨ad3, rfl, hab3, a0, a1⟩ := extE_at (HA.out.below hbq).ext hpe
          obtain ⟨F7, hW7, ho7, hf7⟩ := hwt
          obtain ⟨tk, htk⟩ : ∃ tk, tk = t7 ++ (o.e.take k).flatMap putE := ⟨_, rfl⟩
          rw [← htk] at hW7
          have hlk : tk.length + 16 ≤ 4000000 := by
            have h1 := hl7
            rw [hfp] at h1
            rw [htk]
            simp only [List.length_append, putE, numB_len] at h1 ⊢
            omega
          obtain ⟨wB, hwB⟩ : ∃ wB, wB = wq.alloc (.cells #[.int .i64 (ex : Int), .int .i64 (ey : Int)] 81) := ⟨_, rfl⟩
          obtain ⟨gB, hgB⟩ : ∃ gB, gB = wq.heap.size := ⟨_, rfl⟩
          have hbB : Below wq.heap.size wq wB := by rw [hwB]; exact below_alloc_x _ _
          have KB : Blk wB gB 81 #[.int .i64 (ex : Int), .int .i64 (ey : Int)] := by rw [hwB, hgB]; exact Blk.new _ _ _
          have hgBF : gB ∉ F7 := fun hm => by have := hW7.under _ hm; omega
          have hsq := hbq.size
          have hsB := hbB.size
          have HT8 := Lib.hid (wnum_any wB w0.heap.size F7 (some ⟨g, 0, none⟩) tk ex (hW7.below hbB) (by omega) (by omega))
          have k0 : wB.cell? ⟨gB, 0, none⟩ = some (.int .i64 (ex : Int)) := KB.cell 0
          have hgl := KB.lt
          have HWB := Lib.hid hwB
          have HGB := Lib.hid hgB
          have HQ := Lib.hid (And.intro ho7 (And.intro hf7 (And.intro hbB (And.intro KB (And.intro hgBF (And.intro hft htk))))))
          clear hpe hft hfp hbq hW7 ho7 hf7 hbB KB hgBF hwB hgB htk
          go_wp2_with (have _h := a0; refine wpList_load_ext rfl (.tmp 64) rfl _ rfl (((ex : Int), (ey : Int))) a0 a1 ?_; clear _h a0 a1)
          rw [← HWB.out, ← HGB.out]
          refine HT8.out.mono ?_
          rintro e w8 ⟨rfl, F8, hW8, ho8, hf8⟩
          have hW8' : Wr w8 w0.heap.size F8 (some ⟨g, 0, none⟩) (tk ++ numB ex) := hW8
          have k1 : w8.cell? ⟨gB, 1, none⟩ = some (.int .i64 (ey : Int)) := (HQ.out.2.2.2.1.of (ho8.block _ hgl HQ.out.2.2.2.2.1)).cell 1
          have hs8 := ho8.size
          have hgl8 : gB < w8.heap.size := by omega
          have HT9 := Lib.hid (wnum_any w8 w0.heap.size F8 (some ⟨g, 0, none⟩) (tk ++ numB ex) ey hW8' (by rw [List.length_append, numB_len]; omega) (by omega))
          have H8 := Lib.hid (And.intro ho8 hf8)
          clear hW8 hW8' HT8 ho8 hf8 k0
          go_wp2_with fail
          refine HT9.out.mono ?_
          rintro e w9 ⟨rfl, hw9⟩
          have hfin := WTo.after HQ.out.1 HQ.out.2.1 (WTo.since HQ.out.2.2.1 (WTo.after H8.out.1 H8.out.2 hw9))
          have htx : plus (some ⟨g, 0, none⟩) (tk ++ numB ex) (numB ey) = t7 ++ (o.e.take (k + 1)).flatMap putE := by
            rw [HQ.out.2.2.2.2.2.1, HQ.out.2.2.2.2.2.2]
            show t7 ++ (o.e.take k).flatMap putE ++ numB ex ++ numB ey = _
            simp [putE]
          rw [htx] at hfin
          have HFIN := Lib.hid hfin
          clear hfin htx hw9 HT9
          go_wp2_with fail
          go_roundw
          case rel => exact ⟨k + 1, by omega, by go_num, HFIN.out⟩
          case measure => simp [intS]; omega
        -- E}
        · obtain rfl : k = o.e.length := by omega
          rw [List.take_length] at hwt
          have HFIN := Lib.hid hwt
          clear hwt
          go_wp2
          refine bodyPost_end (results_none rfl _ _ _) rfl ?_
          refine ⟨rfl, ?_⟩
          have h1 := HFIN.out
          rw [HW7.out.2.2, H6.out.2.2.2.2, H4.out.2.2.2.2.2.2.1, H2.out.2.2.2.2.1, HT1E.out, H4.out.2.2.2.2.2.2.2] at h1
          simpa [txB] using h1
end Go.Proofs.YtfbpfgbmlbkffaaGreat
