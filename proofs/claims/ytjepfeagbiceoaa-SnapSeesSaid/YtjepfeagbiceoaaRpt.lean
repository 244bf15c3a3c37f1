/-
  The document's Put. Conditions: the object reads as it is said to, and is no larger than what is looked at.
-/
import Derived.Test.YtjepfeagbiceoaaQy
import Derived.Test.YtjepfeagbiceoaaMd
namespace Go.Proofs.Ytjepfeagbiceoaa
open Go.RowKit Go.BigFrame
set_option linter.unusedSimpArgs false
set_option linter.unusedVariables false
set_option maxRecDepth 100000
def bytesB (bs : List Nat) : List Nat := numB bs.length ++ bs
def clT (c : ClV) : List Nat := numsB c.sn ++ bytesB c.dt
/-- an object's text -/
def putV (o : OV) : List Nat := [if o.th then 1 else 0] ++ bytesB o.dt ++ numB o.sq ++ numB o.cl.length ++ o.cl.flatMap clT
theorem bytesB_len (bs : List Nat) : (bytesB bs).length = 8 + bs.length := by rw [bytesB, List.length_append, numB_len]
theorem clT_len (c : ClV) : (clT c).length = 16 + 8 * c.sn.length + c.dt.length := by rw [clT, List.length_append, numsB_len, bytesB_len]; omega
theorem bytesB_lt {bs : List Nat} (h : ∀ b ∈ bs, b < 256) : ∀ b ∈ bytesB bs, b < 256 := fun b hb => by
  rcases List.mem_append.1 hb with h' | h'
  · exact numB_lt _ b h'
  · exact h b h'
theorem numsB_lt (l : List Int) : ∀ b ∈ numsB l, b < 256 := fun b hb => by
  rcases List.mem_append.1 hb with h' | h'
  · exact numB_lt _ b h'
  · obtain ⟨x, _, hx⟩ := List.mem_flatMap.1 h'
    exact numB_lt _ b hx
theorem clT_lt {c : ClV} (h : ∀ b ∈ c.dt, b < 256) : ∀ b ∈ clT c, b < 256 := fun b hb => by
  rcases List.mem_append.1 hb with h' | h'
  · exact numsB_lt _ b h'
  · exact bytesB_lt h b h'
theorem cls_len (cl : List CA) (h : ∀ c ∈ cl, c.sn.length ≤ 10000 ∧ c.dt.length ≤ 10000) : (cl.flatMap fun c => clT c.v).length ≤ 100000 * cl.length := by
  induction cl with
  | nil => simp
  | cons c cl ih =>
    have h1 := h c (by simp)
    have h2 := ih (fun c hc => h c (by simp [hc]))
    rw [List.flatMap_cons, List.length_append, List.length_cons, clT_len]
    simp only [CA.v]
    simp only [CA.v] at h2
    omega
/-- bytes of the call's own, since w0 -/
def OwnP (w0 : World) (v : Value) (L : List Nat) (wr : World) : Prop := Own wr w0.heap.size v L.length L ∧ Below w0.heap.size w0 wr
theorem OwnP.next {w0 wr w1 : World} {v : Value} {L : List Nat} (h : OwnP w0 v L wr) (hb : Below wr.heap.size wr w1) : OwnP w0 v L w1 := ⟨h.1.below hb, h.2.trans (hb.mono h.2.size)⟩
theorem OwnP.app {w0 w1 w2 : World} {v v2 : Value} {L news : List Nat} {m : Nat} (h : OwnP w0 v L w1) (h5 : Own w2 w0.heap.size v2 (L.length + m) (L ++ news)) (hm : news.length = m) (hg : w1.grownBy w2 v.ownBlock) : OwnP w0 v2 (L ++ news) w2 :=
  ⟨by rw [List.length_append, hm]; exact h5, h.2.grown hg h.2.size (fun b hb => (World.ownsRow.lt h.1 b hb).1)⟩
theorem Own.of_blk9 {w : World} {base g n : Nat} {bs : List Nat} (h : Blk w g 5 (u8s bs).toArray) (hl : bs.length = n) (hb : base ≤ g) (hn : n ≤ 9000000) : Own w base (.slice (some ⟨g, 0, none⟩) n n) n bs :=
  ⟨by rw [u8s_length]; omega, .inr ⟨g, n, _, rfl, hb, h, Nat.le_refl _, by simp [maxLen]; omega, by simp [u8s_length, hl], by rw [List.take_of_length_le (by simp [u8s_length, hl])]⟩⟩
theorem OwnP.wordNew (w0 : World) (x : Nat) : OwnP w0 (.slice (some ⟨w0.heap.size, 0, none⟩) 1 1) [x] (w0.alloc (.cells #[.int .u8 (x : Int)] 5)) :=
  ⟨Own.of_blk9 (bs := [x]) (Blk.new w0 5 (u8s [x]).toArray) rfl (Nat.le_refl _) (by omega), below_alloc _ _⟩
set_option maxHeartbeats 8000000 in
theorem rput_any {w : World} (o : OA) (h : o.R w) (hS : o.Sm) : Calls Try.prog 30 #[.agg o.cs] w fun e w' => ∃ v, e = .returned v ∧ Own w' w.heap.size v (putV o.v).length (putV o.v) ∧ Below w.heap.size w w' := by
  obtain ⟨w0, hw0⟩ : ∃ w0, w0 = w.alloc (.cells o.cs 25) := ⟨_, rfl⟩
  have hb0 : Below w.heap.size w w0 := by rw [hw0]; exact below_alloc w _
  have hz0 : w0.heap.size = w.heap.size + 1 := by rw [hw0]; simp
  have K0 : Blk w0 w.heap.size 25 o.cs := by rw [hw0]; exact Blk.new w _ _
  have H := Lib.hid (And.intro hb0 (And.intro K0 (h.since hb0)))
  have HS := Lib.hid hS
  have HC : Hid (∀ wr, Below w0.heap.size w0 wr → wr.cell? ⟨w.heap.size, 0, none⟩ = some (.bool o.th) ∧ wr.cell? ⟨w.heap.size, 1, none⟩ = some (.slice o.D o.dt.length o.cd) ∧ wr.cell? ⟨w.heap.size, 2, none⟩ = some (.int .i64 o.sq) ∧ wr.cell? ⟨w.heap.size, 3, none⟩ = some (.slice o.C o.cl.length o.cc)) := Lib.hid fun wr hb => by
    have K := K0.of (hb.block _ (by omega))
    exact ⟨K.cell 0, K.cell 1, K.cell 2, K.cell 3⟩
  have hcn := hS.cn
  have hdn := hS.dt
  have HWE := Lib.hid hw0
  have hcs : o.cs = #[.bool o.th, .slice o.D o.dt.length o.cd, .int .i64 o.sq, .slice o.C o.cl.length o.cc] := rfl
  rw [hcs] at HWE ⊢
  have HW1 : Hid (OwnP w0 (.slice (some ⟨w0.heap.size, 0, none⟩) 1 1) [0] (w0.alloc (.cells #[.int .u8 0] 5))) := Lib.hid (OwnP.wordNew w0 0)
  have HW2 : Hid (OwnP w0 (.slice (some ⟨w0.heap.size, 0, none⟩) 1 1) [1] (w0.alloc (.cells #[.int .u8 1] 5))) := Lib.hid (OwnP.wordNew w0 1)
  have HZ0 := Lib.hid hz0
  have hx0 := (HC.out _ HW1.out.2)
  have hy0 := HC.out _ HW2.out.2
  clear h hS hw0 hb0 K0 hcs hz0
  have HV : Hid (o.v = ⟨o.th, o.dt, o.sq, o.cl.map CA.v⟩) := Lib.hid rfl
  cases hth : o.th with
  | false =>
    rw [hth] at hx0 hy0
    have x0 := hx0.1
    have x1 := hx0.2.1
    clear hx0 hy0
    rw [hth] at HWE
    go_enter Try.func30, Try.ntmps30
    go_upto_region 1 with (fail)
    rw [← HWE.out]
    clear HWE
    go_wp2_with fail
    have HP1 := HW1
    have HX : Hid ((0 : Nat) = if o.v.th then 1 else 0) := Lib.hid (by rw [HV.out]; simp only []; rw [hth]; rfl)
    clear HW1 HW2
    generalize w0.alloc (.cells #[.int .u8 0] 5) = W1 at *
    refine (dbytes_any o.D o.dt.length o.cd _ o.dt W1 (H.out.2.2.since HP1.out.2).dt (by omega)).mono ?_
    rintro e w2 ⟨v2, rfl, h2, b2⟩
    obtain ⟨A2, c2, rfl, -⟩ := h2.form
    have HP2 := Lib.hid (HP1.out.next b2)
    have HY2 := Lib.hid (h2.bytes (bytesB_lt H.out.2.2.dt.2))
    clear h2 b2 x0 x1
    go_wp2_with (refine app_bytes (.tmp 10) (.tmp 13) rfl rfl w0.heap.size _ _ _ rfl HP2.out.1 _ A2 (8 + o.dt.length) c2 (bytesB o.dt) rfl HY2.out (by simp only [List.length_cons, List.length_nil]; omega) HP2.out.2.size ?_
                 intro v3 w3 h3 g3 a3
                 have HP3 := Lib.hid (HP2.out.app h3 (bytesB_len _) g3)
                 clear h3 g3 a3
                 have x2 := (HC.out w3 HP3.out.2).2.2.1)
    refine (dnum_any o.sq w3).mono ?_
    rintro e w4 ⟨v4, rfl, h4, b4⟩
    obtain ⟨A4, c4, rfl, -⟩ := h4.form
    have HP4 := Lib.hid (HP3.out.next b4)
    have HY4 := Lib.hid (h4.bytes (numB_lt _))
    have hl4 : ([0] ++ bytesB o.dt).length = 9 + o.dt.length := by rw [List.length_append, bytesB_len]; simp only [List.length_cons, List.length_nil]; omega
    clear h4 b4 x2
    go_wp2_with (refine app_bytes (.tmp 15) (.tmp 18) rfl rfl w0.heap.size _ _ _ rfl HP4.out.1 _ A4 8 c4 (numB o.sq) rfl HY4.out (by rw [hl4]; omega) HP4.out.2.size ?_
                 intro v5 w5 h5 g5 a5
                 have HP5 := Lib.hid (HP4.out.app h5 (numB_len _) g5)
                 clear h5 g5 a5
                 have x3 := (HC.out w5 HP5.out.2).2.2.2)
    refine (dnum_any o.cl.length w5).mono ?_
    rintro e w6 ⟨v6, rfl, h6, b6⟩
    obtain ⟨A6, c6, rfl, -⟩ := h6.form
    have HP6 := Lib.hid (HP5.out.next b6)
    have HY6 := Lib.hid (h6.bytes (numB_lt _))
    have hl6 : ([0] ++ bytesB o.dt ++ numB o.sq).length = 17 + o.dt.length := by rw [List.length_append, hl4, numB_len]; omega
    clear h6 b6 x3
    go_wp2_with (refine app_bytes (.tmp 20) (.tmp 24) rfl rfl w0.heap.size _ _ _ rfl HP6.out.1 _ A6 8 c6 (numB o.cl.length) rfl HY6.out (by rw [hl6]; omega) HP6.out.2.size ?_
                 intro v7 w7 h7 g7 a7
                 have HP7 := Lib.hid (HP6.out.app h7 (numB_len _) g7)
                 clear h7 g7 a7)
    have hl7 : ([0] ++ bytesB o.dt ++ numB o.sq ++ numB o.cl.length).length ≤ 20000 := by rw [List.length_append, hl6, numB_len]; omega
    have HL7 := Lib.hid hl7
    have HE7 : Hid ([0] ++ bytesB o.dt ++ numB o.sq ++ numB o.cl.length = [if o.v.th then 1 else 0] ++ bytesB o.v.dt ++ numB o.v.sq ++ numB o.v.cl.length) := Lib.hid (by rw [← HX.out, HV.out]; simp only [List.length_map])
    clear hl4 hl6 hl7
    generalize [0] ++ bytesB o.dt ++ numB o.sq ++ numB o.cl.length = L0 at *
    go_loopw [3, 4] (fun v i wr => ∃ k : Nat, k ≤ o.cl.length ∧ i = .int .i64 k ∧ OwnP w0 v (L0 ++ (o.cl.take k).flatMap fun c => clT c.v) wr) (fun _ i _ => o.cl.length - (intOf i).toNat)
    case atStart => exact ⟨0, by omega, rfl, by simpa using HP7.out⟩
    case round =>
      obtain ⟨k, hk, rfl, ho⟩ := hrel
      have HP := Lib.hid ho
      have x3 := (HC.out wr ho.2).2.2.2
      have hwk : IntKind.i64.wrap ((k : Int) + 1) = (k : Int) + 1 := by rw [IntKind.wrap_i64]; omega
      have hlk : (L0 ++ (o.cl.take k).flatMap fun c => clT c.v).length ≤ 20000 + 100000 * k := by
        have h1 := cls_len (o.cl.take k) (fun c hc => HS.out.cl c (List.mem_of_mem_take hc))
        have h2 : (o.cl.take k).length ≤ k := by rw [List.length_take]; omega
        rw [List.length_append]
        have := HL7.out
        have : 100000 * (o.cl.take k).length ≤ 100000 * k := Nat.mul_le_mul_left _ h2
        omega
      have HLK := Lib.hid hlk
      clear ho hlk HP7
      by_cases hlt : k < o.cl.length
      · obtain ⟨c, hck⟩ : ∃ c, o.cl[k]? = some c := ⟨_, List.getElem?_eq_getElem hlt⟩
        have hRr := H.out.2.2.since HP.out.2
        obtain ⟨ad, had, hl, hc⟩ := hRr.get hck
        have hcR := hRr.cl c (List.mem_of_getElem? hck)
        have hsm := HS.out.cl c (List.mem_of_getElem? hck)
        have hc0 := hc 0 _ rfl
        have c0' : wr.cell? (ad.add (k * 2)) = some (.slice c.S c.sn.length c.cs) := by simpa [Addr.add] using hc0
        have HSN : Hid ((o.cl.take (k + 1)).flatMap (fun c => clT c.v) = (o.cl.take k).flatMap (fun c => clT c.v) ++ clT c.v) := Lib.hid (by rw [take_snocI hck, List.flatMap_append]; simp)
        have HCK := Lib.hid (And.intro hck (And.intro hcR hsm))
        have hsm1 := hsm.1
        have hsm2 := hsm.2
        have HH := Lib.hid had
        have HRC : Hid (∀ w', Below w0.heap.size w0 w' → w'.cell? ⟨w.heap.size, 3, none⟩ = some (.slice o.C o.cl.length o.cc) ∧ w'.cell? ((ad.add (k * 2)).add 1) = some (.slice c.D c.dt.length c.cd) ∧ c.R w') := Lib.hid fun w' hb => by
          have h1 := hb
          obtain ⟨ad', e, _, hc'⟩ := (H.out.2.2.since h1).get hck
          rw [had] at e
          injection e with e
          subst e
          exact ⟨(HC.out w' h1).2.2.2, hc' 1 _ rfl, (H.out.2.2.since h1).cl c (List.mem_of_getElem? hck)⟩
        generalize o.C = oC at *
        subst had
        clear hck hcR hc hsm hRr hc0
        generalize hLL : L0 ++ (o.cl.take k).flatMap (fun c => clT c.v) = L at *
        have HLL := Lib.hid hLL
        clear hLL
        go_wp2_with fail
        refine (dnums_any c.S c.sn.length c.cs _ c.sn wr HCK.out.2.1.sn (by omega)).mono ?_
        rintro e w2 ⟨v2, rfl, h2, b2⟩
        obtain ⟨A2, c2, rfl, -⟩ := h2.form
        have HQ2 := Lib.hid (HP.out.next b2)
        have HB2 := Lib.hid b2
        have HY2 := Lib.hid (h2.bytes (numsB_lt _))
        clear h2 b2 x3 c0'
        go_wp2_with (refine app_bytes (.tmp 33) (.tmp 40) rfl rfl w0.heap.size _ _ _ rfl HQ2.out.1 _ A2 (8 + 8 * c.sn.length) c2 (numsB c.sn) rfl HY2.out (by have := HLK.out; omega) HQ2.out.2.size ?_
                     intro v3 w3 h3 g3 a3
                     have HQ3 := Lib.hid (HQ2.out.app h3 (numsB_len _) g3)
                     have HB3 : Hid (c.R w3 ∧ Below w0.heap.size w0 w3) := Lib.hid ⟨(HRC.out w3 HQ3.out.2).2.2, HQ3.out.2⟩
                     have x3 : w3.cell? ⟨w.heap.size, 3, none⟩ = some (.slice (some ad) o.cl.length o.cc) := (HRC.out w3 HQ3.out.2).1
                     have c1 : w3.cell? ((ad.add (k * 2)).add 1) = some (.slice c.D c.dt.length c.cd) := (HRC.out w3 HQ3.out.2).2.1
                     have c1' : w3.cell? ⟨(ad.add (k * 2)).block, (ad.add (k * 2)).off + 1, none⟩ = some (.slice c.D c.dt.length c.cd) := by simpa [Addr.add] using c1
                     clear h3 g3 a3)
        refine (dbytes_any c.D c.dt.length c.cd _ c.dt w3 HB3.out.1.dt (by omega)).mono ?_
        rintro e w4 ⟨v4, rfl, h4, b4⟩
        obtain ⟨A4, c4, rfl, -⟩ := h4.form
        have HQ4 := Lib.hid (HQ3.out.next b4)
        have HY4 := Lib.hid (h4.bytes (bytesB_lt HB3.out.1.dt.2))
        clear h4 b4 x3 c1 c1'
        go_wp2_with (refine app_bytes (.tmp 42) (.tmp 49) rfl rfl w0.heap.size _ _ _ rfl HQ4.out.1 _ A4 (8 + c.dt.length) c4 (bytesB c.dt) rfl HY4.out (by rw [List.length_append, numsB_len]; have := HLK.out; omega) HQ4.out.2.size ?_
                     intro v5 w5 h5 g5 a5
                     have HQ5 := Lib.hid (HQ4.out.app h5 (bytesB_len _) g5)
                     clear h5 g5 a5)
        go_roundw
        case rel =>
          refine ⟨k + 1, by omega, by go_num, ?_⟩
          rw [HSN.out, ← List.append_assoc, HLL.out]
          have := HQ5.out
          rwa [List.append_assoc] at this
        case measure => simp [intOf]; omega
      · obtain rfl : k = o.cl.length := by omega
        go_wp2
        go_ret
        refine ⟨_, rfl, ?_⟩
        have h9 := HP.out
        rw [List.take_length, HE7.out] at h9
        have e9 : [if o.v.th then 1 else 0] ++ bytesB o.v.dt ++ numB o.v.sq ++ numB o.v.cl.length ++ o.cl.flatMap (fun c => clT c.v) = putV o.v := by
          rw [putV]
          congr 1
          rw [HV.out]
          simp only [List.flatMap_map]
        rw [e9] at h9
        exact ⟨h9.1.weaken (by have := HZ0.out; omega), H.out.1.trans (h9.2.mono (by have := HZ0.out; omega))⟩
  | true =>
    rw [hth] at hx0 hy0
    have x0 := hx0.1
    have x1 := hy0.2.1
    clear hx0 hy0
    rw [hth] at HWE
    go_enter Try.func30, Try.ntmps30
    go_upto_region 1 with (fail)
    rw [← HWE.out]
    clear HWE
    go_wp2_with fail
    have HP1 := HW2
    have HX : Hid ((1 : Nat) = if o.v.th then 1 else 0) := Lib.hid (by rw [HV.out]; simp only []; rw [hth]; rfl)
    clear HW1 HW2
    generalize w0.alloc (.cells #[.int .u8 1] 5) = W1 at *
    refine (dbytes_any o.D o.dt.length o.cd _ o.dt W1 (H.out.2.2.since HP1.out.2).dt (by omega)).mono ?_
    rintro e w2 ⟨v2, rfl, h2, b2⟩
    obtain ⟨A2, c2, rfl, -⟩ := h2.form
    have HP2 := Lib.hid (HP1.out.next b2)
    have HY2 := Lib.hid (h2.bytes (bytesB_lt H.out.2.2.dt.2))
    clear h2 b2 x0 x1
    go_wp2_with (refine app_bytes (.tmp 10) (.tmp 13) rfl rfl w0.heap.size _ _ _ rfl HP2.out.1 _ A2 (8 + o.dt.length) c2 (bytesB o.dt) rfl HY2.out (by simp only [List.length_cons, List.length_nil]; omega) HP2.out.2.size ?_
                 intro v3 w3 h3 g3 a3
                 have HP3 := Lib.hid (HP2.out.app h3 (bytesB_len _) g3)
                 clear h3 g3 a3
                 have x2 := (HC.out w3 HP3.out.2).2.2.1)
    refine (dnum_any o.sq w3).mono ?_
    rintro e w4 ⟨v4, rfl, h4, b4⟩
    obtain ⟨A4, c4, rfl, -⟩ := h4.form
    have HP4 := Lib.hid (HP3.out.next b4)
    have HY4 := Lib.hid (h4.bytes (numB_lt _))
    have hl4 : ([1] ++ bytesB o.dt).length = 9 + o.dt.length := by rw [List.length_append, bytesB_len]; simp only [List.length_cons, List.length_nil]; omega
    clear h4 b4 x2
    go_wp2_with (refine app_bytes (.tmp 15) (.tmp 18) rfl rfl w0.heap.size _ _ _ rfl HP4.out.1 _ A4 8 c4 (numB o.sq) rfl HY4.out (by rw [hl4]; omega) HP4.out.2.size ?_
                 intro v5 w5 h5 g5 a5
                 have HP5 := Lib.hid (HP4.out.app h5 (numB_len _) g5)
                 clear h5 g5 a5
                 have x3 := (HC.out w5 HP5.out.2).2.2.2)
    refine (dnum_any o.cl.length w5).mono ?_
    rintro e w6 ⟨v6, rfl, h6, b6⟩
    obtain ⟨A6, c6, rfl, -⟩ := h6.form
    have HP6 := Lib.hid (HP5.out.next b6)
    have HY6 := Lib.hid (h6.bytes (numB_lt _))
    have hl6 : ([1] ++ bytesB o.dt ++ numB o.sq).length = 17 + o.dt.length := by rw [List.length_append, hl4, numB_len]; omega
    clear h6 b6 x3
    go_wp2_with (refine app_bytes (.tmp 20) (.tmp 24) rfl rfl w0.heap.size _ _ _ rfl HP6.out.1 _ A6 8 c6 (numB o.cl.length) rfl HY6.out (by rw [hl6]; omega) HP6.out.2.size ?_
                 intro v7 w7 h7 g7 a7
                 have HP7 := Lib.hid (HP6.out.app h7 (numB_len _) g7)
                 clear h7 g7 a7)
    have hl7 : ([1] ++ bytesB o.dt ++ numB o.sq ++ numB o.cl.length).length ≤ 20000 := by rw [List.length_append, hl6, numB_len]; omega
    have HL7 := Lib.hid hl7
    have HE7 : Hid ([1] ++ bytesB o.dt ++ numB o.sq ++ numB o.cl.length = [if o.v.th then 1 else 0] ++ bytesB o.v.dt ++ numB o.v.sq ++ numB o.v.cl.length) := Lib.hid (by rw [← HX.out, HV.out]; simp only [List.length_map])
    clear hl4 hl6 hl7
    generalize [1] ++ bytesB o.dt ++ numB o.sq ++ numB o.cl.length = L0 at *
    go_loopw [3, 4] (fun v i wr => ∃ k : Nat, k ≤ o.cl.length ∧ i = .int .i64 k ∧ OwnP w0 v (L0 ++ (o.cl.take k).flatMap fun c => clT c.v) wr) (fun _ i _ => o.cl.length - (intOf i).toNat)
    case atStart => exact ⟨0, by omega, rfl, by simpa using HP7.out⟩
    case round =>
      obtain ⟨k, hk, rfl, ho⟩ := hrel
      have HP := Lib.hid ho
      have x3 := (HC.out wr ho.2).2.2.2
      have hwk : IntKind.i64.wrap ((k : Int) + 1) = (k : Int) + 1 := by rw [IntKind.wrap_i64]; omega
      have hlk : (L0 ++ (o.cl.take k).flatMap fun c => clT c.v).length ≤ 20000 + 100000 * k := by
        have h1 := cls_len (o.cl.take k) (fun c hc => HS.out.cl c (List.mem_of_mem_take hc))
        have h2 : (o.cl.take k).length ≤ k := by rw [List.length_take]; omega
        rw [List.length_append]
        have := HL7.out
        have : 100000 * (o.cl.take k).length ≤ 100000 * k := Nat.mul_le_mul_left _ h2
        omega
      have HLK := Lib.hid hlk
      clear ho hlk HP7
      by_cases hlt : k < o.cl.length
      · obtain ⟨c, hck⟩ : ∃ c, o.cl[k]? = some c := ⟨_, List.getElem?_eq_getElem hlt⟩
        have hRr := H.out.2.2.since HP.out.2
        obtain ⟨ad, had, hl, hc⟩ := hRr.get hck
        have hcR := hRr.cl c (List.mem_of_getElem? hck)
        have hsm := HS.out.cl c (List.mem_of_getElem? hck)
        have hc0 := hc 0 _ rfl
        have c0' : wr.cell? (ad.add (k * 2)) = some (.slice c.S c.sn.length c.cs) := by simpa [Addr.add] using hc0
        have HSN : Hid ((o.cl.take (k + 1)).flatMap (fun c => clT c.v) = (o.cl.take k).flatMap (fun c => clT c.v) ++ clT c.v) := Lib.hid (by rw [take_snocI hck, List.flatMap_append]; simp)
        have HCK := Lib.hid (And.intro hck (And.intro hcR hsm))
        have hsm1 := hsm.1
        have hsm2 := hsm.2
        have HH := Lib.hid had
        have HRC : Hid (∀ w', Below w0.heap.size w0 w' → w'.cell? ⟨w.heap.size, 3, none⟩ = some (.slice o.C o.cl.length o.cc) ∧ w'.cell? ((ad.add (k * 2)).add 1) = some (.slice c.D c.dt.length c.cd) ∧ c.R w') := Lib.hid fun w' hb => by
          have h1 := hb
          obtain ⟨ad', e, _, hc'⟩ := (H.out.2.2.since h1).get hck
          rw [had] at e
          injection e with e
          subst e
          exact ⟨(HC.out w' h1).2.2.2, hc' 1 _ rfl, (H.out.2.2.since h1).cl c (List.mem_of_getElem? hck)⟩
        generalize o.C = oC at *
        subst had
        clear hck hcR hc hsm hRr hc0
        generalize hLL : L0 ++ (o.cl.take k).flatMap (fun c => clT c.v) = L at *
        have HLL := Lib.hid hLL
        clear hLL
        go_wp2_with fail
        refine (dnums_any c.S c.sn.length c.cs _ c.sn wr HCK.out.2.1.sn (by omega)).mono ?_
        rintro e w2 ⟨v2, rfl, h2, b2⟩
        obtain ⟨A2, c2, rfl, -⟩ := h2.form
        have HQ2 := Lib.hid (HP.out.next b2)
        have HB2 := Lib.hid b2
        have HY2 := Lib.hid (h2.bytes (numsB_lt _))
        clear h2 b2 x3 c0'
        go_wp2_with (refine app_bytes (.tmp 33) (.tmp 40) rfl rfl w0.heap.size _ _ _ rfl HQ2.out.1 _ A2 (8 + 8 * c.sn.length) c2 (numsB c.sn) rfl HY2.out (by have := HLK.out; omega) HQ2.out.2.size ?_
                     intro v3 w3 h3 g3 a3
                     have HQ3 := Lib.hid (HQ2.out.app h3 (numsB_len _) g3)
                     have HB3 : Hid (c.R w3 ∧ Below w0.heap.size w0 w3) := Lib.hid ⟨(HRC.out w3 HQ3.out.2).2.2, HQ3.out.2⟩
                     have x3 : w3.cell? ⟨w.heap.size, 3, none⟩ = some (.slice (some ad) o.cl.length o.cc) := (HRC.out w3 HQ3.out.2).1
                     have c1 : w3.cell? ((ad.add (k * 2)).add 1) = some (.slice c.D c.dt.length c.cd) := (HRC.out w3 HQ3.out.2).2.1
                     have c1' : w3.cell? ⟨(ad.add (k * 2)).block, (ad.add (k * 2)).off + 1, none⟩ = some (.slice c.D c.dt.length c.cd) := by simpa [Addr.add] using c1
                     clear h3 g3 a3)
        refine (dbytes_any c.D c.dt.length c.cd _ c.dt w3 HB3.out.1.dt (by omega)).mono ?_
        rintro e w4 ⟨v4, rfl, h4, b4⟩
        obtain ⟨A4, c4, rfl, -⟩ := h4.form
        have HQ4 := Lib.hid (HQ3.out.next b4)
        have HY4 := Lib.hid (h4.bytes (bytesB_lt HB3.out.1.dt.2))
        clear h4 b4 x3 c1 c1'
        go_wp2_with (refine app_bytes (.tmp 42) (.tmp 49) rfl rfl w0.heap.size _ _ _ rfl HQ4.out.1 _ A4 (8 + c.dt.length) c4 (bytesB c.dt) rfl HY4.out (by rw [List.length_append, numsB_len]; have := HLK.out; omega) HQ4.out.2.size ?_
                     intro v5 w5 h5 g5 a5
                     have HQ5 := Lib.hid (HQ4.out.app h5 (bytesB_len _) g5)
                     clear h5 g5 a5)
        go_roundw
        case rel =>
          refine ⟨k + 1, by omega, by go_num, ?_⟩
          rw [HSN.out, ← List.append_assoc, HLL.out]
          have := HQ5.out
          rwa [List.append_assoc] at this
        case measure => simp [intOf]; omega
      · obtain rfl : k = o.cl.length := by omega
        go_wp2
        go_ret
        refine ⟨_, rfl, ?_⟩
        have h9 := HP.out
        rw [List.take_length, HE7.out] at h9
        have e9 : [if o.v.th then 1 else 0] ++ bytesB o.v.dt ++ numB o.v.sq ++ numB o.v.cl.length ++ o.cl.flatMap (fun c => clT c.v) = putV o.v := by
          rw [putV]
          congr 1
          rw [HV.out]
          simp only [List.flatMap_map]
        rw [e9] at h9
        exact ⟨h9.1.weaken (by have := HZ0.out; omega), H.out.1.trans (h9.2.mono (by have := HZ0.out; omega))⟩
end Go.Proofs.Ytjepfeagbiceoaa
