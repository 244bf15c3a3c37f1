/-
  Heads as data: names, marks, links, snapshots; which are good; their text, and what is read of any bytes. No condition; nothing of the program is named.
-/
import Derived.Test.YtldnghmgdmjljaaKb
import Derived.Test.YtldnghmgdmjljaaRd
namespace Go.Proofs.Ytldnghmgdmjljaa
open Go.RowKit
set_option linter.unusedSimpArgs false
set_option linter.unusedVariables false
def okSign (b : Nat) : Bool := (decide (97 ≤ b) && decide (b ≤ 122)) || (decide (48 ≤ b) && decide (b ≤ 57)) || decide (b = 45)
def namedB (s : List Nat) : Bool := decide (1 ≤ s.length) && decide (s.length ≤ 20) && s.all okSign
structure LkV where
  par : List Nat
  ps : Int
  ov : Int
structure MkV where
  on : Bool
  good : Bool
  row : List Nat
structure SnV where
  num : Int
  size : Int
  name : List Nat
  prot : Bool
  mx : MkV
  lk : LkV
  ch : List (List Nat)
structure HdV where
  id : Int
  size : Int
  obj : Int
  seq : Int
  sn : List SnV
  mx : MkV
  lk : LkV
  ow : Int
  it : Int
  tg : Int
def objsOf (size object : Int) : Int := if size < 1 ∨ object < 1 then 0 else (size - 1) / object + 1
/-- is one string ahead of another? -/
def ltS (a b : List Nat) : Bool := Op.bytesLess (strOf a).toList (strOf b).toList
def MkV.B (m : MkV) (n : Int) : Bool := if m.on then decide (Good m.row) && decide ((m.row.length : Int) = n) else m.row.isEmpty && !m.good
def LkV.B (l : LkV) (size : Int) : Bool := if l.par.isEmpty then decide (l.ps = 0) && decide (l.ov = 0) else namedB l.par && decide (1 ≤ l.ps) && decide (0 ≤ l.ov) && decide (l.ov ≤ size)
def viewB (size obj : Int) (m : MkV) (l : LkV) : Bool := decide (0 ≤ size) && decide (size ≤ 4096) && m.B (objsOf size obj) && l.B size
/-- names that rise -/
def upB : List Nat → List (List Nat) → Bool
  | _, [] => true
  | last, c :: r => namedB c && ltS last c && upB c r
def SnV.chB (s : SnV) : Bool := upB [] s.ch && (s.prot || s.ch.isEmpty)
def snapB (obj seq last : Int) (s : SnV) : Bool := decide (last < s.num) && decide (s.num ≤ seq) && namedB s.name && viewB s.size obj s.mx s.lk && s.chB
def snapsB (obj seq : Int) : Int → List SnV → Bool
  | _, [] => true
  | last, s :: r => snapB obj seq last s && snapsB obj seq s.num r
def isObjB (n : Int) : Bool := n == 16 || n == 32 || n == 64 || n == 128 || n == 256
def HdV.itB (h : HdV) : Bool :=
  if h.it = 1 then decide (0 ≤ h.tg) && decide (h.tg ≤ 4096)
  else if h.it = 2 ∨ h.it = 3 then h.sn.any fun s => s.num == h.tg
  else if h.it = 0 ∨ h.it = 4 ∨ h.it = 5 then decide (h.tg = 0) else false
def HdV.snB (h : HdV) : Bool := decide (h.sn.length ≤ 16) && snapsB h.obj h.seq 0 h.sn && decide (h.sn.map SnV.name).Nodup
def HdV.B (h : HdV) : Bool := decide (0 ≤ h.id) && decide (0 ≤ h.seq) && isObjB h.obj && viewB h.size h.obj h.mx h.lk && h.snB && decide (-1 ≤ h.ow) && decide (h.ow < 8) && h.itB
/-! ### the text -/
def flagB (f : Bool) : List Nat := [if f then 1 else 0]
def txt (b : List Nat) : List Nat := numB b.length ++ b
def putMk (m : MkV) : List Nat := flagB m.on ++ (flagB m.good ++ txt (putM m.row))
def putLk (l : LkV) : List Nat := txt l.par ++ (numB l.ps ++ numB l.ov)
def putVw (m : MkV) (l : LkV) : List Nat := putMk m ++ putLk l
def putSn (s : SnV) : List Nat := numB s.num ++ (txt s.name ++ (numB s.size ++ (putVw s.mx s.lk ++ (flagB s.prot ++ (numB s.ch.length ++ s.ch.flatMap txt)))))
def HdV.put (h : HdV) : List Nat := numB h.id ++ (numB h.size ++ (numB h.obj ++ (numB h.seq ++ (numB h.sn.length ++ (h.sn.flatMap putSn ++ (putVw h.mx h.lk ++ (numB h.ow ++ (numB h.it ++ numB h.tg))))))))
/-! ### what is read -/
def marksOf (b : List Nat) : List Nat := if TakeOk b then takeM b (countOf b) else []
def RD.mkv (s : RD) : MkV := ⟨s.flag, s.flagTo.flag, marksOf s.flagTo.flagTo.bytes⟩
def RD.mkTo (s : RD) : RD := s.flagTo.flagTo.bytesTo
def RD.lkv (s : RD) : LkV := ⟨s.bytes, s.bytesTo.num, (s.bytesTo.take 8).num⟩
def RD.lkTo (s : RD) : RD := (s.bytesTo.take 8).take 8
def RD.chL : Nat → RD → List (List Nat)
  | 0, s => []
  | k + 1, s => if namedB s.bytes then s.bytes :: RD.chL k s.bytesTo else []
def RD.chT : Nat → RD → RD
  | 0, s => s
  | k + 1, s => if namedB s.bytes then RD.chT k s.bytesTo else s.bytesTo
/-- a reader's states in a snapshot -/
def RD.sn1 (s : RD) : RD := (s.take 8).bytesTo.take 8
def RD.sn2 (s : RD) : RD := s.sn1.mkTo.lkTo.flagTo
def RD.snv (s : RD) : SnV := ⟨s.num, (s.take 8).bytesTo.num, (s.take 8).bytes, s.sn1.mkTo.lkTo.flag, s.sn1.mkv, s.sn1.mkTo.lkv, RD.chL s.sn2.num.toNat (s.sn2.take 8)⟩
def RD.snTo (s : RD) : RD := RD.chT s.sn2.num.toNat (s.sn2.take 8)
/-- one behind the other -/
def itL {α σ : Type} (f : σ → α) (g : σ → σ) : Nat → σ → List α
  | 0, s => []
  | k + 1, s => f s :: itL f g k (g s)
def itT {σ : Type} (g : σ → σ) : Nat → σ → σ
  | 0, s => s
  | k + 1, s => itT g k (g s)
def RD.snL (k : Nat) (s : RD) : List SnV := itL RD.snv RD.snTo k s
def RD.snT (k : Nat) (s : RD) : RD := itT RD.snTo k s
def RD.four (s : RD) : RD := (((s.take 8).take 8).take 8).take 8
def RD.cnt (s : RD) : Nat := (min s.four.num 16).toNat
def RD.hd1 (s : RD) : RD := RD.snT s.cnt (s.four.take 8)
def RD.hd2 (s : RD) : RD := s.hd1.mkTo.lkTo
def RD.hdv (s : RD) : HdV := ⟨s.num, (s.take 8).num, ((s.take 8).take 8).num, (((s.take 8).take 8).take 8).num, RD.snL s.cnt (s.four.take 8), s.hd1.mkv, s.hd1.mkTo.lkv, s.hd2.num, (s.hd2.take 8).num, ((s.hd2.take 8).take 8).num⟩
def RD.hdTo (s : RD) : RD := ((s.hd2.take 8).take 8).take 8
/-! ### what was put is read back -/
def I64 (n : Int) : Prop := -9223372036854775808 ≤ n ∧ n ≤ 9223372036854775807
theorem txt_len (b : List Nat) : (txt b).length = 8 + b.length := by simp [txt, numB_len]
theorem take_num (n : Int) (rest : List Nat) (h : I64 n) : (⟨numB n ++ rest, false⟩ : RD).take 8 = ⟨rest, false⟩ ∧ (⟨numB n ++ rest, false⟩ : RD).num = n := by
  obtain ⟨e1, e2⟩ := RD.take_fit (s := ⟨numB n ++ rest, false⟩) (k := 8) rfl (by simp [numB_len])
  refine ⟨e1.trans (by rw [List.drop_left' (numB_len n)]), ?_⟩
  have : (⟨numB n ++ rest, false⟩ : RD).num = numOf ((⟨numB n ++ rest, false⟩ : RD).got 8) := rfl
  rw [this]
  exact (congrArg numOf (e2.trans (List.take_left' (numB_len n)))).trans (numOf_numB n h.1 h.2)
theorem take_bs (b rest : List Nat) : (⟨b ++ rest, false⟩ : RD).take (b.length : Nat) = ⟨rest, false⟩ ∧ (⟨b ++ rest, false⟩ : RD).got (b.length : Nat) = b := by
  obtain ⟨e1, e2⟩ := RD.take_fit (s := ⟨b ++ rest, false⟩) (k := b.length) rfl (by simp)
  exact ⟨e1.trans (by rw [List.drop_left' rfl]), e2.trans (List.take_left' rfl)⟩
theorem take_one (b : Nat) (rest : List Nat) : (⟨b :: rest, false⟩ : RD).take 1 = ⟨rest, false⟩ ∧ (⟨b :: rest, false⟩ : RD).byte = b := by
  have h := take_bs [b] rest
  refine ⟨h.1, ?_⟩
  have : (⟨b :: rest, false⟩ : RD).byte = ((⟨b :: rest, false⟩ : RD).got 1).headD 0 := rfl
  rw [this, show (⟨b :: rest, false⟩ : RD).got 1 = [b] from h.2]
  rfl
theorem bytes_back (b rest : List Nat) (hb : b.length ≤ 1000000) : (⟨txt b ++ rest, false⟩ : RD).bytesTo = ⟨rest, false⟩ ∧ (⟨txt b ++ rest, false⟩ : RD).bytes = b := by
  rw [txt, List.append_assoc]
  obtain ⟨t1, t2⟩ := take_num (b.length : Nat) (b ++ rest) (by unfold I64; omega)
  obtain ⟨u1, u2⟩ := take_bs b rest
  exact ⟨by rw [RD.bytesTo, t1, t2, u1], by rw [RD.bytes, t1, t2, u2]⟩
theorem flag_back (f : Bool) (rest : List Nat) : (⟨flagB f ++ rest, false⟩ : RD).flagTo = ⟨rest, false⟩ ∧ (⟨flagB f ++ rest, false⟩ : RD).flag = f := by
  obtain ⟨t1, t2⟩ := take_one (if f then 1 else 0) rest
  refine ⟨?_, ?_⟩
  · show RD.flagTo ⟨(if f then 1 else 0) :: rest, false⟩ = _
    rw [RD.flagTo, t1, t2, if_neg (by cases f <;> decide)]
  · show RD.flag ⟨(if f then 1 else 0) :: rest, false⟩ = _
    rw [RD.flag, t2]
    cases f <;> rfl
/-- what can be read back -/
structure MkV.Ok (m : MkV) : Prop where
  row : Good m.row
structure LkV.Ok (l : LkV) : Prop where
  par : l.par.length ≤ 1000000
  ps : I64 l.ps
  ov : I64 l.ov
structure SnV.Ok (s : SnV) : Prop where
  num : I64 s.num
  size : I64 s.size
  name : s.name.length ≤ 1000000
  mx : s.mx.Ok
  lk : s.lk.Ok
  ch : ∀ c ∈ s.ch, namedB c = true
  cn : s.ch.length ≤ 1000000
theorem marksOf_put {m : List Nat} (h : Good m) : marksOf (putM m) = m := by rw [marksOf, if_pos (ok_put h), count_put, take_put h]
theorem named_len {c : List Nat} (h : namedB c = true) : 1 ≤ c.length ∧ c.length ≤ 20 := by
  simp [namedB] at h
  omega
theorem putM_small {m : List Nat} (h : Good m) : (putM m).length ≤ 66 := by rw [putM_len]; have := h.1; omega
theorem mk_back (m : MkV) (rest : List Nat) (h : m.Ok) : (⟨putMk m ++ rest, false⟩ : RD).mkTo = ⟨rest, false⟩ ∧ (⟨putMk m ++ rest, false⟩ : RD).mkv = m := by
  unfold putMk RD.mkTo RD.mkv
  rw [List.append_assoc, List.append_assoc]
  obtain ⟨a1, a2⟩ := flag_back m.on (flagB m.good ++ (txt (putM m.row) ++ rest))
  obtain ⟨b1, b2⟩ := flag_back m.good (txt (putM m.row) ++ rest)
  obtain ⟨c1, c2⟩ := bytes_back (putM m.row) rest (by have := putM_small h.row; omega)
  rw [a1, a2, b1, b2, c1, c2, marksOf_put h.row]
  exact ⟨rfl, rfl⟩
theorem lk_back (l : LkV) (rest : List Nat) (h : l.Ok) : (⟨putLk l ++ rest, false⟩ : RD).lkTo = ⟨rest, false⟩ ∧ (⟨putLk l ++ rest, false⟩ : RD).lkv = l := by
  unfold putLk RD.lkTo RD.lkv
  rw [List.append_assoc, List.append_assoc]
  obtain ⟨a1, a2⟩ := bytes_back l.par (numB l.ps ++ (numB l.ov ++ rest)) h.par
  obtain ⟨b1, b2⟩ := take_num l.ps (numB l.ov ++ rest) h.ps
  obtain ⟨c1, c2⟩ := take_num l.ov rest h.ov
  rw [a1, a2, b1, b2, c1, c2]
  exact ⟨rfl, rfl⟩
theorem chs_back (rest : List Nat) : ∀ (l : List (List Nat)) , (∀ c ∈ l, namedB c = true) → RD.chL l.length ⟨l.flatMap txt ++ rest, false⟩ = l ∧ RD.chT l.length ⟨l.flatMap txt ++ rest, false⟩ = ⟨rest, false⟩
  | [], _ => ⟨rfl, rfl⟩
  | c :: l, h => by
    have ih := chs_back rest l fun c hc => h c (List.mem_cons_of_mem _ hc)
    have hc := h c (by simp)
    obtain ⟨a1, a2⟩ := bytes_back c (l.flatMap txt ++ rest) (by have := named_len hc; omega)
    rw [List.length_cons, RD.chL, RD.chT, List.flatMap_cons, List.append_assoc, a1, a2, if_pos hc, if_pos hc, ih.1, ih.2]
    exact ⟨rfl, rfl⟩
theorem sn_steps {s0 s1 s2 s3 s4 s5 s6 s7 s8 : RD} {num size : Int} {name : List Nat} {m : MkV} {l : LkV} {p : Bool} {n : Nat} {ch : List (List Nat)}
    (a : s0.take 8 = s1 ∧ s0.num = num) (b : s1.bytesTo = s2 ∧ s1.bytes = name) (c : s2.take 8 = s3 ∧ s2.num = size) (d : s3.mkTo = s4 ∧ s3.mkv = m) (f : s4.lkTo = s5 ∧ s4.lkv = l) (g : s5.flagTo = s6 ∧ s5.flag = p) (i : s6.take 8 = s7 ∧ s6.num = (n : Int)) (hc : RD.chL n s7 = ch ∧ RD.chT n s7 = s8) :
    s0.snTo = s8 ∧ s0.snv = ⟨num, size, name, p, m, l, ch⟩ := by
  have q1 : s0.sn1 = s3 := by unfold RD.sn1; rw [a.1, b.1, c.1]
  have q2 : s0.sn2 = s6 := by unfold RD.sn2; rw [q1, d.1, f.1, g.1]
  have ht : (n : Int).toNat = n := by omega
  refine ⟨?_, ?_⟩
  · unfold RD.snTo; rw [q2, i.1, i.2, ht, hc.2]
  · unfold RD.snv; rw [q2, q1, a.1, a.2, b.1, b.2, c.2, d.1, d.2, f.1, f.2, g.2, i.1, i.2, ht, hc.1]
theorem app_mid {s : RD} {a b : List Nat} (e : a = b) {s' : RD} {x : SnV} (h : (⟨b, false⟩ : RD).snTo = s' ∧ (⟨b, false⟩ : RD).snv = x) : (⟨a, false⟩ : RD).snTo = s' ∧ (⟨a, false⟩ : RD).snv = x := by rw [e]; exact h
theorem putSn_rest (s : SnV) (rest : List Nat) : putSn s ++ rest = numB s.num ++ (txt s.name ++ (numB s.size ++ (putMk s.mx ++ (putLk s.lk ++ (flagB s.prot ++ (numB s.ch.length ++ (s.ch.flatMap txt ++ rest))))))) := by
  unfold putSn putVw
  simp only [List.append_assoc]
theorem sn_back (s : SnV) (rest : List Nat) (h : s.Ok) : (⟨putSn s ++ rest, false⟩ : RD).snTo = ⟨rest, false⟩ ∧ (⟨putSn s ++ rest, false⟩ : RD).snv = s :=
  app_mid (s := ⟨[], false⟩) (putSn_rest s rest) (sn_steps (take_num s.num _ h.num) (bytes_back s.name _ h.name) (take_num s.size _ h.size) (mk_back s.mx _ h.mx) (lk_back s.lk _ h.lk) (flag_back s.prot _) (take_num (s.ch.length : Nat) _ (by have := h.cn; unfold I64; omega)) (chs_back rest s.ch h.ch))
theorem snL_step {s0 s1 s2 : RD} {x : SnV} {k : Nat} {l : List SnV} (h : s0.snTo = s1 ∧ s0.snv = x) (ih : RD.snL k s1 = l ∧ RD.snT k s1 = s2) : RD.snL (k + 1) s0 = x :: l ∧ RD.snT (k + 1) s0 = s2 := by
  unfold RD.snL RD.snT at *
  rw [itL, itT, h.1, h.2]
  exact ⟨congrArg _ ih.1, ih.2⟩
theorem snL_mid {a b : List Nat} (e : a = b) {s : RD} {k : Nat} {l : List SnV} (h : RD.snL k ⟨b, false⟩ = l ∧ RD.snT k ⟨b, false⟩ = s) : RD.snL k ⟨a, false⟩ = l ∧ RD.snT k ⟨a, false⟩ = s := by rw [e]; exact h
theorem sns_back (rest : List Nat) : ∀ (l : List SnV), (∀ s ∈ l, s.Ok) → RD.snL l.length ⟨l.flatMap putSn ++ rest, false⟩ = l ∧ RD.snT l.length ⟨l.flatMap putSn ++ rest, false⟩ = ⟨rest, false⟩
  | [], _ => ⟨rfl, rfl⟩
  | s :: l, h => snL_mid (b := putSn s ++ (l.flatMap putSn ++ rest)) (by rw [List.flatMap_cons, List.append_assoc]) (snL_step (sn_back s (l.flatMap putSn ++ rest) (h s (by simp))) (sns_back rest l fun c hc => h c (List.mem_cons_of_mem _ hc)))
structure HdV.Ok (h : HdV) : Prop where
  id : I64 h.id
  size : I64 h.size
  obj : I64 h.obj
  seq : I64 h.seq
  sn : ∀ s ∈ h.sn, s.Ok
  cn : h.sn.length ≤ 16
  mx : h.mx.Ok
  lk : h.lk.Ok
  ow : I64 h.ow
  it : I64 h.it
  tg : I64 h.tg
theorem hd_steps {s0 s1 s2 s3 s4 s5 s6 s7 s8 s9 s10 s11 : RD} {id size obj seq ow it to : Int} {m : MkV} {l : LkV} {n : Nat} {sn : List SnV} (hn : n ≤ 16)
    (a : s0.take 8 = s1 ∧ s0.num = id) (b : s1.take 8 = s2 ∧ s1.num = size) (c : s2.take 8 = s3 ∧ s2.num = obj) (d : s3.take 8 = s4 ∧ s3.num = seq) (f : s4.take 8 = s5 ∧ s4.num = (n : Int)) (hs : RD.snL n s5 = sn ∧ RD.snT n s5 = s6)
    (g : s6.mkTo = s7 ∧ s6.mkv = m) (i : s7.lkTo = s8 ∧ s7.lkv = l) (j : s8.take 8 = s9 ∧ s8.num = ow) (k : s9.take 8 = s10 ∧ s9.num = it) (e : s10.take 8 = s11 ∧ s10.num = to) :
    s0.hdTo = s11 ∧ s0.hdv = ⟨id, size, obj, seq, sn, m, l, ow, it, to⟩ := by
  have ht : (min (n : Int) 16).toNat = n := by omega
  have q0 : s0.four = s4 := by unfold RD.four; rw [a.1, b.1, c.1, d.1]
  have qc : s0.cnt = n := by unfold RD.cnt; rw [q0, f.2, ht]
  have q1 : s0.hd1 = s6 := by unfold RD.hd1; rw [q0, qc, f.1, hs.2]
  have q2 : s0.hd2 = s8 := by unfold RD.hd2; rw [q1, g.1, i.1]
  refine ⟨?_, ?_⟩
  · unfold RD.hdTo; rw [q2, j.1, k.1, e.1]
  · unfold RD.hdv; rw [q2, q1, qc, q0, f.1, hs.1, a.1, a.2, b.1, b.2, c.1, c.2, d.2, g.1, g.2, i.2, j.1, j.2, k.1, k.2, e.2]
theorem hd_put (h : HdV) : h.put = numB h.id ++ (numB h.size ++ (numB h.obj ++ (numB h.seq ++ (numB h.sn.length ++ (h.sn.flatMap putSn ++ (putMk h.mx ++ (putLk h.lk ++ (numB h.ow ++ (numB h.it ++ (numB h.tg ++ [])))))))))) := by
  unfold HdV.put putVw
  simp only [List.append_assoc, List.append_nil]
theorem hd_mid {a b : List Nat} (e : a = b) {s' : RD} {x : HdV} (h : (⟨b, false⟩ : RD).hdTo = s' ∧ (⟨b, false⟩ : RD).hdv = x) : (⟨a, false⟩ : RD).hdTo = s' ∧ (⟨a, false⟩ : RD).hdv = x := by rw [e]; exact h
theorem hd_back (h : HdV) (hk : h.Ok) : (⟨h.put, false⟩ : RD).hdTo = ⟨[], false⟩ ∧ (⟨h.put, false⟩ : RD).hdv = h :=
  hd_mid (hd_put h) (hd_steps hk.cn (take_num h.id _ hk.id) (take_num h.size _ hk.size) (take_num h.obj _ hk.obj) (take_num h.seq _ hk.seq) (take_num (h.sn.length : Nat) _ (by have := hk.cn; unfold I64; omega)) (sns_back _ h.sn hk.sn) (mk_back h.mx _ hk.mx) (lk_back h.lk _ hk.lk) (take_num h.ow _ hk.ow) (take_num h.it _ hk.it) (take_num h.tg [] hk.tg))
end Go.Proofs.Ytldnghmgdmjljaa
