/-
  A store's text that was put is taken to what was put. No condition; nothing of the program is named.
-/
import Derived.Test.YtfbpfgbmlbkffaaGreatZi
import Derived.Test.YtfbpfgbmlbkffaaGreatScpC
import Derived.Test.YtfbpfgbmlbkffaaGreatSkdC
namespace Go.Proofs.YtfbpfgbmlbkffaaGreat
open Go.RowKit Go.BigFrame Go.Shelf Go.Sort Go.Maps Go.WideElems
set_option linter.unusedSimpArgs false
set_option linter.unusedVariables false
set_option maxRecDepth 100000
def tkM (bs : List Nat) : Option Mod := (tkP bs).bind fun M => if putM M = bs then some M else none
theorem tkM_some {bs : List Nat} {M : Mod} (h : tkP bs = some M) (h2 : putM M = bs) : tkM bs = some M := by
  unfold tkM
  rw [h, Option.bind_some, if_pos h2]
theorem tkM_no {bs : List Nat} {M : Mod} (h : tkP bs = some M) (h2 : putM M ≠ bs) : tkM bs = none := by
  unfold tkM
  rw [h, Option.bind_some, if_neg h2]
theorem tkM_none {bs : List Nat} (h : tkP bs = none) : tkM bs = none := by
  unfold tkM
  rw [h, Option.bind_none]
/-! ### what was put is read -/
theorem rd_take (a rest : List Nat) : (⟨a ++ rest, false⟩ : RD).take a.length = ⟨rest, false⟩ ∧ (⟨a ++ rest, false⟩ : RD).got a.length = a := by
  have h := RD.take_fit (s := ⟨a ++ rest, false⟩) (k := a.length) rfl (by simp)
  refine ⟨h.1.trans ?_, h.2.trans ?_⟩
  · simp
  · simp
theorem rd_num (n : Int) (h1 : -9223372036854775808 ≤ n) (h2 : n ≤ 9223372036854775807) (rest : List Nat) : (⟨numB n ++ rest, false⟩ : RD).num = n ∧ (⟨numB n ++ rest, false⟩ : RD).take 8 = ⟨rest, false⟩ := by
  have h := rd_take (numB n) rest
  rw [numB_len] at h
  refine ⟨?_, h.1⟩
  unfold RD.num
  have h3 : (⟨numB n ++ rest, false⟩ : RD).got ((8 : Nat) : Int) = (⟨numB n ++ rest, false⟩ : RD).got 8 := rfl
  rw [← h3, h.2]
  exact numOf_numB n h1 h2
theorem rd_nat (n : Nat) (h : n ≤ 9000000) (rest : List Nat) : (⟨numB (n : Int) ++ rest, false⟩ : RD).num = n ∧ (⟨numB (n : Int) ++ rest, false⟩ : RD).take 8 = ⟨rest, false⟩ := rd_num n (by omega) (by omega) rest
theorem rd_tx (bs : List Nat) (h : bs.length ≤ 9000000) (rest : List Nat) : (⟨txB bs ++ rest, false⟩ : RD).bytes = bs ∧ (⟨txB bs ++ rest, false⟩ : RD).bytesTo = ⟨rest, false⟩ := by
  have h1 := rd_nat bs.length h (bs ++ rest)
  have h2 := rd_take bs rest
  unfold RD.bytes RD.bytesTo txB
  rw [List.append_assoc, h1.1, h1.2]
  exact ⟨h2.2, h2.1⟩
theorem rd_flag (f : Bool) (rest : List Nat) : (⟨(if f then 1 else 0) :: rest, false⟩ : RD).flag = f ∧ (⟨(if f then 1 else 0) :: rest, false⟩ : RD).flagTo = ⟨rest, false⟩ := by
  have h := rd_take [if f then 1 else 0] rest
  have hb : (⟨(if f then 1 else 0) :: rest, false⟩ : RD).byte = if f then 1 else 0 := by
    unfold RD.byte
    have : (⟨(if f then 1 else 0) :: rest, false⟩ : RD).got 1 = [if f then 1 else 0] := h.2
    rw [this]
    rfl
  refine ⟨?_, ?_⟩
  · unfold RD.flag
    rw [hb]
    cases f <;> rfl
  · unfold RD.flagTo
    rw [hb, if_neg (by cases f <;> simp)]
    exact h.1
theorem flS_at (bl : List Bool) (h : bl.length = 8) (rest : List Nat) : ∀ k, k ≤ 8 → flS ⟨flB bl ++ rest, false⟩ k = (⟨(flB bl).drop k ++ rest, false⟩, bl.take k ++ List.replicate (8 - k) false)
  | 0, _ => rfl
  | k + 1, hk => by
    have ih := flS_at bl h rest k (by omega)
    have hl : k < bl.length := by omega
    have hd : (flB bl).drop k = (if bl[k] then 1 else 0) :: (flB bl).drop (k + 1) := by
      have hl2 : k < (flB bl).length := by unfold flB; rw [List.length_map]; exact hl
      rw [List.drop_eq_getElem_cons hl2]
      congr 1
      simp [flB]
    have hr : List.replicate (8 - k) false = false :: List.replicate (8 - (k + 1)) false := by
      rw [show 8 - k = (8 - (k + 1)) + 1 by omega]
      rfl
    rw [flS, ih]
    simp only
    rw [hd, List.cons_append, (rd_flag _ _).1, (rd_flag _ _).2, hr, List.set_append_right _ _ (by rw [List.length_take]; omega), List.length_take, Nat.min_eq_left (by omega), Nat.sub_self, List.set_cons_zero, List.take_succ_eq_append_getElem hl, List.append_assoc]
    rfl
theorem flS_put (bl : List Bool) (h : bl.length = 8) (rest : List Nat) : flS ⟨flB bl ++ rest, false⟩ 8 = (⟨rest, false⟩, bl) := by
  have h8 := flS_at bl h rest 8 (Nat.le_refl _)
  rw [h8, List.drop_of_length_le (by unfold flB; rw [List.length_map]; omega), List.take_of_length_le (by omega)]
  simp
/-! ### rows that rise -/
theorem rise_end {V : Type} {k : Key} {v : V} : ∀ {l r : List (Key × V)}, Rise (l ++ (k, v) :: r) → gput k v l = l ++ [(k, v)] := by
  intro l r h
  have hb : ∀ p ∈ l, bytesBefore p.1 k = true := fun p hp => (List.pairwise_append.1 h).2.2 p hp (k, v) (by simp)
  have hne : ∀ p ∈ l, p.1 ≠ k := fun p hp e => by
    have := hb p hp
    rw [e, WideAt.bytes_irrefl] at this
    cases this
  have hd : gdel k l = l := List.filter_eq_self.2 fun p hp => by simpa using hne p hp
  unfold gput
  rw [hd]
  clear hd hne h
  induction l with
  | nil => rfl
  | cons y l ih =>
    have hy := hb y (by simp)
    have hn : bytesBefore k y.1 = false := by
      cases hc : bytesBefore k y.1 with
      | false => rfl
      | true =>
        have := WideShapes.bytes_trans _ _ _ hy hc
        rw [WideAt.bytes_irrefl] at this
        cases this
    rw [gins, hn]
    simp only [Bool.false_eq_true, if_false, List.cons_append]
    rw [ih fun p hp => hb p (by simp [hp])]
theorem before_lt : ∀ {a b : List UInt8}, bytesBefore a b = true → a < b
  | [], [], h => by cases h
  | [], _ :: _, _ => List.nil_lt_cons _ _
  | _ :: _, [], h => by cases h
  | x :: r, y :: s, h => by
    simp only [bytesBefore, Bool.or_eq_true, decide_eq_true_eq, Bool.and_eq_true, beq_iff_eq] at h
    rw [List.cons_lt_cons_iff]
    rcases h with h | ⟨h, h2⟩
    · exact .inl h
    · exact .inr ⟨h, before_lt h2⟩
theorem rise_srt {V : Type} {l : List (Key × V)} (h : Rise l) : srt (l.map (·.1)) = l.map (·.1) :=
  (srt_eq (List.Perm.refl _) (by
    rw [List.pairwise_map]
    refine h.imp fun {p q} hb => ?_
    simp only [leB, decide_eq_true_eq]
    exact List.le_of_lt (before_lt hb))).symm
/-! ### what was put is taken -/
theorem okChar_lt {bs : List Nat} (h : isNameB bs = true) : ∀ b ∈ bs, b < 256 := fun b hb => by
  simp only [isNameB, Bool.and_eq_true, List.all_eq_true] at h
  have := h.2 b hb
  simp only [okChar, Bool.and_eq_true, decide_eq_true_eq] at this
  omega
theorem keyL_B {nm : List Nat} (h : ∀ b ∈ nm, b < 256) : keyL (keyB nm) = nm := by
  unfold keyL keyB
  rw [List.map_map]
  conv => rhs; rw [← List.map_id nm]
  refine List.map_congr_left fun b hb => ?_
  have := h b hb
  simp only [Function.comp_apply, id, UInt8.toNat_ofNat']
  omega
theorem name_L {k : Key} (h : ∃ nm, k = keyB nm ∧ isNameB nm = true) : isNameB (keyL k) = true ∧ (keyL k).length ≤ 32 := by
  obtain ⟨nm, rfl, hn⟩ := h
  rw [keyL_B (okChar_lt hn)]
  exact ⟨hn, (name_pos hn).2⟩
theorem atL_rise {a : AL} (h : Rise a) (hk : Keys1 a) : atL a (srt (a.map (·.1))) = a := by
  rw [rise_srt h]
  unfold atL
  rw [List.map_map]
  conv => rhs; rw [← List.map_id a]
  refine List.map_congr_left fun q hq => ?_
  simp only [Function.comp_apply, hk.get hq, Option.getD_some, id]
theorem Rise.keys {V : Type} {l : List (Key × V)} (h : Rise l) : Keys1 l := by
  unfold Keys1
  rw [List.Nodup, List.pairwise_map]
  refine h.imp fun {p q} hb e => ?_
  rw [e, WideAt.bytes_irrefl] at hb
  cases hb
theorem tkA_put : ∀ (l acc : AL) (rest : List Nat), Rise (acc ++ l) → (∀ q ∈ l, AOk q) → tkA l.length ⟨l.flatMap putA ++ rest, false⟩ acc = some (acc ++ l, ⟨rest, false⟩)
  | [], acc, rest, _, _ => by simp [tkA]
  | q :: l, acc, rest, h, hok => by
    obtain ⟨hn, hv⟩ := hok q (by simp)
    obtain ⟨hn1, hn2⟩ := name_L hn
    have h1 := rd_tx (keyL q.1) (by omega) (txB q.2 ++ (l.flatMap putA ++ rest))
    have h2 := rd_tx q.2 (by omega) (l.flatMap putA ++ rest)
    have e : (q :: l).flatMap putA ++ rest = txB (keyL q.1) ++ (txB q.2 ++ (l.flatMap putA ++ rest)) := by
      rw [List.flatMap_cons]
      simp [putA]
    rw [e, List.length_cons, tkA, h1.1, h1.2, h2.1, h2.2, if_pos ⟨hn1, hv⟩, keyL_key, rise_end (k := q.1) (v := q.2) h]
    have := tkA_put l (acc ++ [q]) rest (by simpa using h) (fun p hp => hok p (by simp [hp]))
    rw [this]
    simp
theorem tkE_put : ∀ (l acc : List (Nat × Nat)) (fl : List Bool) (rest : List Nat), OkA fl l false → (∀ e ∈ l, 1 ≤ e.2) → fl.length ≤ 65536 → tkE l.length ⟨l.flatMap putE ++ rest, false⟩ fl acc = some (acc ++ l, setA fl l false, ⟨rest, false⟩)
  | [], acc, fl, rest, _, _, _ => by simp [tkE, setA]
  | e :: l, acc, fl, rest, h, hp, hl => by
    have hin := h.1.1
    have hpe := hp e (by simp)
    have h1 := rd_nat e.1 (by omega) (numB e.2 ++ (l.flatMap putE ++ rest))
    have h2 := rd_nat e.2 (by omega) (l.flatMap putE ++ rest)
    have e0 : (e :: l).flatMap putE ++ rest = numB e.1 ++ (numB e.2 ++ (l.flatMap putE ++ rest)) := by
      rw [List.flatMap_cons]
      simp [putE]
    have hf : freeB fl (e.1 : Int) (e.2 : Int) = true := freeB_iff.2 ⟨e.1, e.2, rfl, rfl, hpe, h.1⟩
    rw [e0, List.length_cons, tkE, h1.1, h1.2, h2.1, h2.2, if_pos hf, Int.toNat_natCast, Int.toNat_natCast]
    have := tkE_put l (acc ++ [(e.1, e.2)]) (setR fl e.1 e.2 false) rest h.2 (fun p hp' => hp p (by simp [hp'])) (by rw [setR_len hin]; exact hl)
    rw [this, setA_cons]
    simp
/-- what an object has to be -/
structure OkT (p : Key × Ob) : Prop where
  nm : ∃ nm, p.1 = keyB nm ∧ isNameB nm = true
  d : p.2.d.length ≤ 65536
  a : Rise p.2.a
  ok : ∀ q ∈ p.2.a, AOk q
  al : p.2.a.length ≤ 9000000
  e : lens p.2.e = needsB p.2.d
  pos : ∀ e ∈ p.2.e, 1 ≤ e.2
theorem tkO_put {p : Key × Ob} {M : Mod} {rest : List Nat} (h : OkT p) (hok : OkA M.fl p.2.e false) (hl : M.fl.length ≤ 65536) : tkO ⟨putO (keyL p.1) p.2 ++ rest, false⟩ M = some (⟨M.bl, setA M.fl p.2.e false, gput p.1 p.2 M.ob⟩, ⟨rest, false⟩) := by
  obtain ⟨hn1, hn2⟩ := name_L h.nm
  have hd := h.d
  have hel := len_lens h.pos
  have he := h.e
  have hal := h.al
  unfold needsB at he
  obtain ⟨t4, ht4⟩ : ∃ t4, t4 = p.2.e.flatMap putE ++ rest := ⟨_, rfl⟩
  obtain ⟨t3, ht3⟩ : ∃ t3, t3 = numB p.2.e.length ++ t4 := ⟨_, rfl⟩
  obtain ⟨t2, ht2⟩ : ∃ t2, t2 = p.2.a.flatMap putA ++ t3 := ⟨_, rfl⟩
  obtain ⟨t1, ht1⟩ : ∃ t1, t1 = numB p.2.a.length ++ t2 := ⟨_, rfl⟩
  have h1 := rd_tx (keyL p.1) (by omega) (txB p.2.d ++ t1)
  have h2 := rd_tx p.2.d (by omega) t1
  have h3 := rd_nat p.2.a.length (by omega) t2
  have h4 := rd_nat p.2.e.length (by omega) t4
  have e0 : putO (keyL p.1) p.2 ++ rest = txB (keyL p.1) ++ (txB p.2.d ++ t1) := by
    unfold putO
    rw [atL_rise h.a h.a.keys, ht1, ht2, ht3, ht4]
    simp
  have hA := tkA_put p.2.a [] t3 (by simpa using h.a) h.ok
  have hE := tkE_put p.2.e [] M.fl rest hok h.pos hl
  rw [← ht2] at hA
  rw [← ht4] at hE
  obtain ⟨sr, hs⟩ : ∃ sr : RD, sr = ⟨putO (keyL p.1) p.2 ++ rest, false⟩ := ⟨_, rfl⟩
  have q1 : sr.bytes = keyL p.1 := by rw [hs, e0]; exact h1.1
  have q2 : sr.bytesTo = ⟨txB p.2.d ++ t1, false⟩ := by rw [hs, e0]; exact h1.2
  have q3 : sr.bytesTo.bytes = p.2.d := by rw [q2]; exact h2.1
  have q4 : sr.bytesTo.bytesTo = ⟨t1, false⟩ := by rw [q2]; exact h2.2
  have q5 : sr.bytesTo.bytesTo.num.toNat = p.2.a.length := by rw [q4, ht1, h3.1]; exact Int.toNat_natCast _
  have q6 : sr.bytesTo.bytesTo.take 8 = ⟨t2, false⟩ := by rw [q4, ht1]; exact h3.2
  have q7 : (⟨t3, false⟩ : RD).num.toNat = p.2.e.length := by rw [ht3, h4.1]; exact Int.toNat_natCast _
  have q8 : (⟨t3, false⟩ : RD).take 8 = ⟨t4, false⟩ := by rw [ht3]; exact h4.2
  have hT := tkO_some (s := sr) (M := M) (a := p.2.a) (e := p.2.e) (fl := setA M.fl p.2.e false) (s3 := ⟨t3, false⟩) (s4 := ⟨rest, false⟩) ⟨by rw [q1]; exact hn1, by rw [q3]; exact hd⟩ (by rw [q5, q6]; exact hA) (by rw [q7, q8]; exact hE) (by rw [q3]; exact h.e)
  rw [← hs, hT, q1, q3, keyL_key]
theorem tkN_put : ∀ (L acc : List (Key × Ob)) (bl fl : List Bool) (rest : List Nat), Rise (acc ++ L) → (∀ p ∈ L, OkT p) → OkA fl (exts L) false → fl.length ≤ 65536 →
    tkN L.length ⟨L.flatMap (fun p => putO (keyL p.1) p.2) ++ rest, false⟩ ⟨bl, fl, acc⟩ = some (⟨bl, setA fl (exts L) false, acc ++ L⟩, ⟨rest, false⟩)
  | [], acc, bl, fl, rest, _, _, _, _ => by simp [tkN, exts, setA]
  | p :: L, acc, bl, fl, rest, h, hok, ho, hl => by
    have hx : exts (p :: L) = p.2.e ++ exts L := rfl
    rw [hx, OkA.app] at ho
    have h1 := tkO_put (p := p) (M := ⟨bl, fl, acc⟩) (rest := L.flatMap (fun p => putO (keyL p.1) p.2) ++ rest) (hok p (by simp)) ho.1 hl
    have hT := tkN_some (k := L.length) h1
    rw [List.length_cons, List.flatMap_cons, List.append_assoc, hT]
    simp only
    rw [rise_end (k := p.1) (v := p.2) h]
    have := tkN_put L (acc ++ [p]) bl (setA fl p.2.e false) rest (by simpa using h) (fun q hq => hok q (by simp [hq])) ho.2 (by rw [ho.1.len]; exact hl)
    rw [this, hx, setA_app]
    simp
theorem good_ok {fl : List Bool} {L : List (Nat × Nat)} (h : Good fl L) : OkA (List.replicate fl.length true) L false ∧ setA (List.replicate fl.length true) L false = fl := by
  have hok : OkA (List.replicate fl.length true) L false := (okA_iff L _ false h.pos).2 ⟨fun e he => ⟨by simpa using h.inn e he, fun j h1 h2 => by have := h.inn e he; rw [List.getElem?_replicate, if_pos (by omega)]; rfl⟩, h.dis⟩
  refine ⟨hok, ?_⟩
  apply List.ext_getElem?
  intro j
  obtain ⟨h1, h2⟩ := hok.at_ j
  by_cases hj : j < fl.length
  · have hc := h.cov j hj
    by_cases hv : Cov L j
    · rw [(h1 hv).1, hc.1 hv]
    · rw [h2 hv, List.getElem?_replicate, if_pos hj]
      have hn : fl[j]? ≠ some false := fun e => hv (hc.2 e)
      rw [List.getElem?_eq_getElem hj] at hn ⊢
      cases hb : fl[j] with
      | true => rfl
      | false => rw [hb] at hn; exact absurd rfl hn
  · rw [List.getElem?_eq_none (by rw [hok.len, List.length_replicate]; omega), List.getElem?_eq_none (by omega)]
/-- what is put is taken -/
theorem tkP_put {n : Nat} {M : Mod} (h : Inv n M) (hN : InvN M) (hR : RiseM M) (hn : n ≤ 1000000) : tkP (putM M) = some M := by
  have hl := h.len
  have hbl := h.bl
  have hfew := h.few
  have hok : ∀ p ∈ M.ob, OkT p := fun p hp => by
    have ho := h.obs p hp
    exact ⟨h.nms p hp, ho.d, hR.2 p hp, hN p hp, by have := ho.a; omega, ho.e, fun e he => h.good.pos e (List.mem_flatMap.2 ⟨p, hp, he⟩)⟩
  obtain ⟨hA, hS⟩ := good_ok h.good
  have hT := tkN_put M.ob [] M.bl (List.replicate M.fl.length true) [] (by simpa using hR.1) hok hA (by simpa using hl)
  have hflat : (srt (M.ob.map (·.1))).flatMap (putK M) = M.ob.flatMap fun p => putO (keyL p.1) p.2 := by
    rw [rise_srt hR.1, List.flatMap_map]
    refine congrArg List.flatten (List.map_congr_left fun p hp => ?_)
    unfold putK
    rw [h.keys.get hp]
  obtain ⟨t2, ht2⟩ : ∃ t2, t2 = (M.ob.flatMap fun p => putO (keyL p.1) p.2) ++ [] := ⟨_, rfl⟩
  obtain ⟨t1, ht1⟩ : ∃ t1, t1 = numB M.ob.length ++ t2 := ⟨_, rfl⟩
  have e0 : putM M = numB M.fl.length ++ (flB M.bl ++ t1) := by
    unfold putM
    rw [hflat, ht1, ht2]
    simp
  have h1 := rd_nat M.fl.length (by omega) (flB M.bl ++ t1)
  have h2 := flS_put M.bl hbl t1
  have h3 := rd_nat M.ob.length (by omega) t2
  obtain ⟨bs, hbs⟩ : ∃ bs, bs = putM M := ⟨_, rfl⟩
  rw [← hbs] at e0 ⊢
  have q1 : (⟨bs, false⟩ : RD).num = M.fl.length := by rw [e0]; exact h1.1
  have q2 : (⟨bs, false⟩ : RD).take 8 = ⟨flB M.bl ++ t1, false⟩ := by rw [e0]; exact h1.2
  have q3 : flS ((⟨bs, false⟩ : RD).take 8) 8 = (⟨t1, false⟩, M.bl) := by rw [q2]; exact h2
  have q4 : (⟨t1, false⟩ : RD).num.toNat = M.ob.length := by rw [ht1, h3.1]; exact Int.toNat_natCast _
  have q5 : (⟨t1, false⟩ : RD).take 8 = ⟨t2, false⟩ := by rw [ht1]; exact h3.2
  have hT2 : tkN (flS ((⟨bs, false⟩ : RD).take 8) 8).1.num.toNat ((flS ((⟨bs, false⟩ : RD).take 8) 8).1.take 8) ⟨(flS ((⟨bs, false⟩ : RD).take 8) 8).2, List.replicate (⟨bs, false⟩ : RD).num.toNat true, []⟩ = some (M, ⟨[], false⟩) := by
    rw [q3, q1, Int.toNat_natCast]
    simp only
    rw [q4, q5, ht2, hT, hS]
    rfl
  exact tkP_some ⟨by omega, by omega⟩ hT2
theorem tkM_put {n : Nat} {M : Mod} (h : Inv n M) (hN : InvN M) (hR : RiseM M) (hn : n ≤ 1000000) : tkM (putM M) = some M := by
  exact tkM_some (tkP_put h hN hR hn) rfl
end Go.Proofs.YtfbpfgbmlbkffaaGreat
