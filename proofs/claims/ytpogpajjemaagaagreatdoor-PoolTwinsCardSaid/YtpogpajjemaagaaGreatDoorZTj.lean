/- Texts of the walk, joined. -/
import Derived.Test.YtpogpajjemaagaaGreatDoorZTi
import Derived.RangeFuncGives
namespace Go.Proofs.YtpogpajjemaagaaGreatDoor
set_option linter.unusedSimpArgs false
set_option linter.unusedVariables false
set_option maxRecDepth 100000
open Go.Proofs.Tryz
set_option maxHeartbeats 16000000
open Go.RowKit Go.BigFrame
open List (append_toArray cons_append drop_eq_getElem_cons flatMap_cons length_cons length_map length_nil length_singleton map_congr_left map_cons map_id map_map mem_append mem_append_left mem_append_right mem_cons mem_cons_self mem_of_getElem? mem_of_mem_take mem_range mem_singleton nil_append nodup_nil push_toArray size_toArray sum_cons take_left take_of_length_le)
variable {W w w' w0 : World} {B base c g gen k n u : Nat} {A : OA} {M M' : Mod} {told txs : List LN} {Q : Exit -> Act -> World -> Prop} {a : Act} {Ks : LN} {J : JS} {x : PX}
theorem x8D {P : Program} {fn : Func} {p q : Tmp} {ty : TypeId} (h : fn.results = #[.cell p ty, .tmp q]) (tmps : Array Value) (w : World) (g : Nat) (t : TypeId) (cs : Array Value) (fr : Nat × Nat) (d : TypeDesc) (v : Value)
 (hp : tmps.getD p undef = .pointer (some ⟨g, 0, none⟩)) (hq : tmps.getD q undef = v) (hg : w.heap[g]? = some (.cells cs t fr))
 (hu : P.underlying ty = some d) (hd : (match d with | .struct _ | .array _ _ => true | _ => false) = true) (hi : (P.info? ty).map (·.size) = some cs.size) :
  (results fn tmps).run P w = .ok (.tuple #[.agg cs, v]) w := by
 have hp' : tmps[p]?.getD undef = .pointer (some ⟨g, 0, none⟩) := by simpa using hp
 have hq' : tmps[q]?.getD undef = v := by simpa using hq
 simp [results, h, hp', hq', asAddr, run_loadVar_row w g t ty cs fr d hg hu hd hi]
def chZ : Array Value := #[.int .u8 0, .string { data := #[] }, .slice none 0 0, .int .i64 0]
theorem xFX (nm : LN) (xs : List StepV) (hsm : Small nm) (hnm : nm.length <= 1000000) (hx : ∀ x ∈ xs, StepOk x) (hn : xs.length <= 1000) (hlen : (opB nm xs).length <= 1000000) (hb : Bytes w B A (opB nm xs).length (opB nm xs)) (hB : B <= w.heap.size) :
  Calls prog 126 #[.slice A (opB nm xs).length c] w fun e w' => ∃ A1 c1 l, e = .returned (.tuple #[.agg (chC 1 nm A1 l.length c1 0), .bool true]) /\ l.map SV.x = xs /\ StepsR w' w'.heap.size A1 l /\ l.length <= c1 /\ Below w.heap.size w w' := by
 obtain ⟨T, hT⟩ := kX (opB nm xs)
 rw [<- hT] at hb hlen ⊢
 obtain ⟨w1, hw1⟩ := kX (w.alloc (.cells #[.int .u8 0, .string { data := #[] }, .slice none 0 0, .int .i64 0] 128))
 have hb1 : Below w.heap.size w w1 := by rw [hw1]; exact x05 _ _
 have K1 : Blk w1 w.heap.size 128 chZ := by rw [hw1]; exact kW _ _ _
 have HNR := kH (x9A A T.length c T w1 B (by omega) ((hb.since hb1)))
 have HT := kH hT
 have HW1 := kH hw1
 have HB1 := kH hb1
 have HK1 := kH K1
 have HBY := kH hb
 have HX := kH hx
 have HS1 : w1.heap.size = w.heap.size + 1 := by rw [hw1]; simp
 clear hw1 hb1 K1 hb hx hT
 go_enter func126, ntmps126
 go_wp2_with (first | rw [<- HW1.out])
 refine HNR.out.mono ?_
 rintro e w2 ⟨gr, F2, rfl, hr2, hb2⟩
 obtain ⟨e1, e2⟩ := xPI 1 (sttxB nm ++ (numB (xs.length : Nat) ++ xs.flatMap stepB))
 rw [HT.out, xQG] at hr2
 have hby := x77 w2 w1.heap.size F2 (some ⟨gr, 0, none⟩) _ hr2 hb2.size
 rw [e1, e2] at hby
 have HBYT := kH hby
 have H2 := kH (kA hr2 hb2)
 clear hr2 hb2 e1 e2 hby HNR
 go_wp2_with fail
 refine HBYT.out.mono ?_
 rintro e w3 ⟨rfl, F3, hr3, ho3, hf3⟩
 have hb3 : Below w1.heap.size w1 w3 := H2.out.2.trans (ho3.below (H2.out.1.over) H2.out.2.size)
 obtain ⟨w4, hw4⟩ := kX (w3.alloc (.cells #[.int .u8 1, .string { data := #[] }, .slice none 0 0, .int .i64 0] 128))
 have hb34 : Below w3.heap.size w3 w4 := by rw [hw4]; exact x05 _ _
 have K4 : Blk w4 w3.heap.size 128 #[.int .u8 1, .string { data := #[] }, .slice none 0 0, .int .i64 0] := by rw [hw4]; exact kW _ _ _
 obtain ⟨g5, hg5⟩ := kX w3.heap.size
 have hr4 := hr3.below hb34
 have hb4 : Below w1.heap.size w1 w4 := hb3.trans (hb34.mono hb3.size)
 obtain ⟨e1, e2⟩ := x5Z nm (by omega) (numB (xs.length : Nat) ++ xs.flatMap stepB)
 have htx := xBA w4 w1.heap.size F3 (some ⟨gr, 0, none⟩) _ hr4 hb4.size
 rw [e1, e2] at htx
 have HTX := kH htx
 have c0 : w4.cell? ⟨g5, 0, none⟩ = some (.int .u8 1) := by rw [hg5]; exact K4.cell 0
 rw [<- hg5] at K4
 have hg5F : g5 ∉ F3 := fun hm => by have := hr3.under _ hm; omega
 have HW4 := kH hw4
 have HG5 := kH hg5
 have H4 := kH (kA hr4 (kA hb4 (kA K4 hg5F)))
 have HS5 : w1.heap.size <= g5 := by rw [hg5]; exact hb3.size
 clear hr3 ho3 hf3 hb3 hw4 hb34 K4 hr4 hb4 e1 e2 htx hg5 hg5F HBYT
 go_wp2_with (first | rw [<- HW4.out, <- HG5.out])
 refine HTX.out.mono ?_
 rintro e w5 ⟨rfl, F5, hr5, ho5, hf5⟩
 have hb5 : Below w1.heap.size w1 w5 := H4.out.2.1.trans (ho5.below H4.out.1.over H4.out.2.1.size)
 have K5 := H4.out.2.2.1.of (ho5.block _ H4.out.2.2.1.lt H4.out.2.2.2)
 have hg5F : g5 ∉ F5 := fun hm => by
  rcases hf5 _ hm with h1 | h1
  ·exact H4.out.2.2.2 h1
  ·have := H4.out.2.2.1.lt; omega
 have hT5 : (xs.flatMap stepB).length <= 1000000 := by
  have := hlen
  rw [HT.out] at this
  unfold opB at this
  simp only [length_cons, kN] at this
  omega
 have HSP := kH (xHR xs HX.out hn hT5 hr5 hb5.size)
 have H5 := kH (kA hb5 (kA K5 (kA hg5F hr5)))
 clear hr5 ho5 hf5 hb5 K5 hg5F HTX c0
 go_wp2_with fail
 refine HSP.out.mono ?_
 rintro e w6 ⟨A1, c1, l, F6, rfl, hlx, hS6⟩
 have K6 := H5.out.2.1.of (hS6.on.block _ H5.out.2.1.lt H5.out.2.2.1)
 have hb6 : Below w1.heap.size w1 w6 := H5.out.1.trans (hS6.on.below H5.out.2.2.2.over H5.out.1.size)
 have hcap : l.length <= c1 := by
  rcases hS6.row.2 with ⟨e, h0⟩ | ⟨g, cap, cur, e, _, _, h1, _⟩
  ·injection e with e1 e2 e3
   omega
  ·injection e with e1 e2 e3
   subst e3
   exact h1
 have hst6 := hS6.steps (fun s hs => HX.out s.x (by rw [<- hlx]; exact List.mem_map.2 ⟨s, hs, rfl⟩))
 have H6 := kH (kA hlx (kA hS6 (kA hb6 (kA hcap hst6))))
 have HK6 := kH K6
 clear hlx hS6 hb6 hcap hst6 K6 HSP
 go_upto_region 9 with (first
  | (refine x0I rfl 9 _ _ rfl g5 1 128 _ (.string (strOf nm)) rfl rfl HK6.out (by simp) (by kernel_rfl) rfl ?_; intro w7 K7 o7 s7)
  | (refine x0I rfl 39 _ _ rfl g5 2 128 _ (.slice A1 l.length c1) rfl rfl K7 (by simp) (by kernel_rfl) rfl ?_; intro w8 K8 o8 s8))
 have K8' : Blk w8 g5 128 (chC 1 nm A1 l.length c1 0) := K8
 have ho8 : Only [g5] w6 w8 := o7.trans o8 (kF _ _)
 have hb8 : Below w1.heap.size w1 w8 := H6.out.2.2.1.trans (ho8.below (fun q hq => by simp at hq; omega) H6.out.2.2.1.size)
 have hrow8 : ∀ (b size n : Nat) (t : TypeId) (v : Value) (zs : List Value), w6.ownsRow b t size v n zs -> 128 ≠ t -> w8.ownsRow b t size v n zs := fun b size n t v zs hv hne => x0N hv ho8 (fun q hq => by
  simp at hq
  subst hq
  exact Odd.blk HK6.out hne)
 have HROW := kH hrow8
 have hst8 : StepsR w8 w8.heap.size A1 l := ⟨kV (hrow8 _ _ _ _ _ _ H6.out.2.1.row (by decide)), fun s hs => by
  obtain ⟨x1, x2, x3⟩ := H6.out.2.1.els s hs
  have h1 := HX.out s.x (by rw [<- H6.out.1]; exact List.mem_map.2 ⟨s, hs, rfl⟩)
  exact ⟨(show Own w8 _ _ _ _ from hrow8 _ _ _ _ _ _ x1 (by decide)).bytes x2, h1.nm.2, h1.at_.1, h1.at_.2, h1.ln.1, h1.ln.2, h1.nm.1, h1.dt.1⟩⟩
 have K18 : Blk w8 w.heap.size 128 chZ := HK1.out.below hb8 HK1.out.lt
 have hS8 : Blk w8.drew g5 128 (chC 1 nm A1 l.length c1 0) /\ ∃ cs, cs.size = 4 /\ Blk w8.drew w.heap.size 128 cs := ⟨K8'.drew, chZ, rfl, K18.drew⟩
 have HK18 := kH K18.drew
 have hll : l.length <= 1000 := by
  have := congrArg List.length H6.out.1
  rw [length_map] at this
  omega
 have hbd : Below w8.heap.size w8 w8.drew := x08 (kB _ _) 1
 have htxt := xG6 (w := w8.drew) nm hsm hnm (hst8.since hbd) (kR _) (by omega) (by rw [H6.out.1, <- HT.out]; omega) (cs := c1)
 rw [H6.out.1, <- HT.out] at htxt
 have hbw : Below w.heap.size w w8.drew := (HB1.out.trans (hb8.mono HB1.out.size)).trans (hbd.mono (kT HB1.out.size hb8.size))
 have HXT := kH htxt
 have H8 := kH (kA hst8 (kA hb8 hbw))
 clear K7 o7 s7 K8 o8 s8 K8' ho8 hb8 hrow8 hst8 K18 htxt hbw
 refine x09 (fun w' => Blk w' g5 128 (chC 1 nm A1 l.length c1 0) /\ ∃ cs, cs.size = 4 /\ Blk w' w.heap.size 128 cs) 6 (by kernel_rfl) ?_
 refine tU 0 (.agg (chC 1 nm A1 l.length c1 0)) rfl (fun w hw => x33 rfl rfl rfl hw.1) hS8 ?_
 refine tU 1 (.agg (chC 1 nm A1 l.length c1 0)) rfl (fun w hw => x33 rfl rfl rfl hw.1) hS8 ?_
 refine tU 3 (.slice A T.length c) rfl (fun w hw => by kernel_rfl) hS8 ?_
 refine tO 2 ?_
 refine x03 (by kernel_rfl) HXT.out ?_
 rintro e w9 ⟨v9, rfl, ho9, hb9⟩
 obtain ⟨A9, c9, rfl⟩ := x0H ho9
 have K19 : Blk w9 w.heap.size 128 chZ := HK18.out.below hb9 HK18.out.lt
 have hS9 : Blk w9 g5 128 (chC 1 nm A1 l.length c1 0) /\ ∃ cs, cs.size = 4 /\ Blk w9 w.heap.size 128 cs := ⟨hS8.1.below hb9 hS8.1.lt, chZ, rfl, K19⟩
 have hbw9 : Below w.heap.size w w9 := H8.out.2.2.trans (hb9.mono H8.out.2.2.size)
 have hsmT : Small T := HBY.out.2
 have heq := x74 A9 A T.length T.length c9 c _ _ T T w9 (ho9.bytes hsmT) (HBY.out.since hbw9)
 have hst9 := (H8.out.1.since hbd).since hb9
 refine ⟨_, rfl, hS9, ?_⟩
 simp only [nH, pu, nB, nC, nD]
 refine tO 4 ?_
 refine x03 (by kernel_rfl) heq ?_
 rintro e w' ⟨rfl, hw'⟩
 subst hw'
 refine ⟨_, rfl, hS9, ?_⟩
 simp only [nH, pu, nB, nC, nD]
 refine tO 5 ?_
 refine wp_store_mid 128 _ _ (by rfl) w.heap.size 0 (chC 1 nm A1 l.length c1 0) (by rfl) (by rfl) (K19.there (by simp [chC, chZ])) (by kernel_rfl) (by simp [chC, Value.oneCell']) ?_
 have hov := K19.over (chC 1 nm A1 l.length c1 0).toList (by simp [chC, chZ])
 obtain ⟨w10, hw10⟩ := kX (w9.setCells w.heap.size 0 (chC 1 nm A1 l.length c1 0).toList)
 have hon : Only [w.heap.size] w9 w10 := by rw [hw10]; exact (kU _ _).grown (x0F _ _ 0 w9).1 (fun k e => .inl (by injection e with e; simp [e]))
 have K10 : Blk w10 w.heap.size 128 (chC 1 nm A1 l.length c1 0) := by rw [hw10]; exact hov
 rw [<- hw10]
 have K10' : Blk w10 g5 128 (chC 1 nm A1 l.length c1 0) := hS9.1.of (hon.block _ hS9.1.lt (by simp; omega))
 have hrow10 : ∀ (b size n : Nat) (t : TypeId) (v : Value) (zs : List Value), w6.ownsRow b t size v n zs -> 128 ≠ t -> w10.ownsRow b t size v n zs := fun b size n t v zs hv hne => by
  have h8 := HROW.out b size n t v zs hv hne
  have h9 : w9.ownsRow b t size v n zs := x06 h8 (fun q hq => (hb9.block q (x02 h8 q hq)))
  exact x0N h9 hon (fun q hq => by
   simp at hq
   subst hq
   exact Odd.blk K19 hne)
 have hst10 : StepsR w10 w10.heap.size A1 l := ⟨kV (hrow10 _ _ _ _ _ _ H6.out.2.1.row (by decide)), fun s hs => by
  obtain ⟨x1, x2, x3⟩ := H6.out.2.1.els s hs
  have h1 := HX.out s.x (by rw [<- H6.out.1]; exact List.mem_map.2 ⟨s, hs, rfl⟩)
  exact ⟨(show Own w10 _ _ _ _ from hrow10 _ _ _ _ _ _ x1 (by decide)).bytes x2, h1.nm.2, h1.at_.1, h1.at_.2, h1.ln.1, h1.ln.2, h1.nm.1, h1.dt.1⟩⟩
 have hb10 : Below w.heap.size w w10 := hbw9.trans (hon.below (fun q hq => by simp at hq; omega) hbw9.size)
 have H10 := kH (kA hst10 hb10)
 have HK10 := kH K10
 refine ⟨⟨K10', _, rfl, K10⟩, ?_⟩
 simp only [nH, pu, nB, nC, nD]
 refine tZ ?_
 refine x0A (v := .bool (T == T)) (w' := w10) (by kernel_rfl) ?_
 refine NoPanic.normal ?_
 simp only [nH, pu, nB, nC, nD]
 clear hS8 K19 hb9 hS9 hbw9 heq hst9 hov hon K10 K10' hrow10 hst10 hb10 ho9
 have hTT : (T == T) = true := by simp
 rw [hTT]
 go_wp2
 refine bodyPost_ret (x8D rfl _ _ w.heap.size 128 (chC 1 nm A1 l.length c1 0) (0, 0) _ _ rfl rfl HK10.out underlying128 rfl (by kernel_rfl)) rfl ?_
 exact ⟨A1, c1, l, rfl, H6.out.1, H10.out.1, H6.out.2.2.2.1, H10.out.2⟩
theorem xIR {Z : LN} {gs ms gp r c0 n0 : Nat} {A0 : OA} {kv : KV} (h : StoreAt w Z gs ms gp r c0 A0 M kv) (hZ : ms ∈ Z) (hZl : ∀ z ∈ Z, z < w.heap.size) (hI : Inv n0 M) (hn0 : n0 <= 900000) (nm : LN) (xs : List StepV) (hsm : Small nm) (hnm : nm.length <= 1000000) (hx : ∀ x ∈ xs, StepOk x) (hn : xs.length <= 1000) (hlen : (opB nm xs).length <= 1000000) (hb : Bytes w B A (opB nm xs).length (opB nm xs)) (hB : B <= w.heap.size) (hr : DoR M nm xs M' 0 told) :
  Calls prog 74 #[.pointer (some ⟨gs, 0, none⟩), .slice A (opB nm xs).length c] w fun e w' => e = .returned (.bool true) /\ ∃ kv', StoreAt w' Z gs ms gp r c0 A0 M' kv' /\ Only (ms :: foot gp r M.fl) w w' := by
 have HC := kH (xFX nm xs hsm hnm hx hn hlen hb hB (c := c))
 have HH := kH h
 have HR := kH hr
 clear h hr hb hx
 go_enter func74, ntmps74
 go_wp2_with fail
 refine HC.out.mono ?_
 rintro e w2 ⟨A1, c1, l, rfl, hlx, hst, hcap, hb2⟩
 have hll : l.length <= 1000 := by
  have := congrArg List.length hlx
  rw [length_map] at this
  omega
 have hb3 : Below w2.heap.size w2 (w2.alloc (.cells #[.int .u8 1, .string (strOf nm), .slice A1 l.length c1, .int .i64 0] 128)) := x05 _ _
 have K3 : Blk (w2.alloc (.cells #[.int .u8 1, .string (strOf nm), .slice A1 l.length c1, .int .i64 0] 128)) w2.heap.size 128 (chC 1 nm A1 l.length c1 0) := kW _ _ _
 obtain ⟨w3, hw3⟩ := kX (w2.alloc (.cells #[.int .u8 1, .string (strOf nm), .slice A1 l.length c1, .int .i64 0] 128))
 rw [<- hw3] at hb3 K3
 have hb03 : Below w.heap.size w w3 := hb2.trans (hb3.mono hb2.size)
 have HD := kH (xDI (HH.out.below hb03) hZ (fun z hz => kL (hZl z hz) hb03.size) hI hn0 nm hsm hnm (hst.since hb3) hb3.size hcap (by omega))
 have HB3 := kH hb03
 have HK3 := kH K3
 have HW3 := kH hw3
 have HLX := kH hlx
 clear hb3 K3 hw3 hb03 hlx hst hcap hb2 HC
 unfold chC
 go_wp2_with (first | rw [<- HW3.out] | (refine x15 rfl (.tmp 5) rfl w2.heap.size rfl (chC 1 nm A1 l.length c1 0) rfl HK3.out ?_))
 refine HD.out.mono ?_
 rintro e w5 ⟨w4, hb4, hon, M1, kk, told1, v, kv', hr1, hst1, rfl, ht1⟩
 rw [HLX.out] at hr1
 obtain ⟨rfl, rfl, rfl⟩ := x2Z hr1 HR.out
 have HF := kH (kA hst1 (((kO HB3.out _).trans (kO hb4 _) (kF _ _)).trans hon (kF _ _)))
 clear hst1 hon hr1 ht1 hb4 HD
 simp only [errV]
 go_wp2
 go_ret
 exact ⟨rfl, kv', HF.out.1, HF.out.2⟩
section
open Go.RowKit Go.Shelf Go.BigFrame
attribute [local go_sem] Oper.semAt_some
def StaysN {β : Type} (J : β -> World -> Prop) : Prop := ∀ s W W', J s W -> W.grownBy W' none -> J s W'
def OwnL {β : Type} (B : Nat) (I : β -> World -> Prop) : Prop :=
  ∀ s W W' row, I s W -> W.grownBy W' row -> (∀ r, row = some r -> B <= r /\ ∃ o : Obj, W.heap[r]? = some o /\ o.isCells = false /\ o.isWalk = false) -> I s W'
theorem OwnL.putObj {β : Type} {I : β -> World -> Prop} (h : OwnL B I) {s : β} {l : Nat} {o : Obj} (o' : Obj) (hs : I s W) (hB : B <= l) (hl : W.heap[l]? = some o) (ho : o.isCells = false) (hw : o.isWalk = false) : I s (W.putObj l o') :=
  h s W _ (some l) hs (grownBy_putObj' W l o') (fun r e => by cases e; exact ⟨hB, o, hl, ho, hw⟩)
theorem OwnL.alloc {β : Type} {I : β -> World -> Prop} (h : OwnL B I) {s : β} (o : Obj) (hs : I s W) : I s (W.alloc o) :=
  h s W _ none hs (World.grownBy_alloc W o none) (fun r e => by cases e)
def GoesOn {α : Type} (B : Nat) (Kp : World -> World -> Prop) (I : List α -> World -> Prop) (xs : List α) (W : World) : Exit -> Act -> World -> Prop
 | .normal, _, W' => KeepsFrom B W W' /\ Kp W W' /\ I xs W'
 | _, _, _ => False
def Gives {α : Type} (F : Fence) (n : Nat) (P : Program) (gf : Nat) (lb : Array Value) (encs : α -> Array Value) (N : Nat) (G : List α -> α -> World -> Prop) (S : List α -> World -> Prop) (Kp : World -> World -> Prop) (w : World) : Prop :=
 ∀ (l : Nat) (J : List α -> World -> Prop) (W : World), Below w.heap.size w W -> StaysN J →
  (∀ pre x W1, J pre W1 -> G pre x W1 -> pre.length < N -> YieldAt F (n - 1) P l (encs x) W1 fun e W' => e = .returned (.bool true) /\ J (pre ++ [x]) W' /\ Kp W1 W') -> J [] W →
  CallsIn F n P gf (#[.func (.yield l) #[] #[]] ++ lb) W fun e W' => (∃ v, e = .returned v) /\ ∃ xs, S xs W' /\ J xs W'
section
variable {F : Fence} {n : Nat} {P : Program}
theorem xFL {α : Type} {g : Operand} {ps : Array Tmp} {assign body : Code} 
 (hro : F.round = none) (h1 : 1 <= n) {gf : Nat} {lb : Array Value} (hg : a.eval g = .func (.func gf) #[] lb) (hFg : F.fn gf) (eg : ∀ args w, (callFunc gf args).run P w = .ok (.enter gf args) w)
 {encs : α -> Array Value} (hps : ∀ x, (encs x).size = ps.size) {N : Nat} {S : List α -> World -> Prop} {G : List α -> α -> World -> Prop} {Kp : World -> World -> Prop} (hseq : Gives F (n - 1) P gf lb encs N G S Kp w)
 (I : List α -> World -> Prop) (hI : OwnL w.heap.size I) (hS : OwnFrom w.heap.size S) (hG : ∀ pre x, OwnFrom w.heap.size (fun (_ : Unit) W => G pre x W))
 (hKt : ∀ {A B C : World}, Kp A B -> Kp B C -> Kp A C) (hKb : ∀ (W : World) (l : Nat) (o o' : Obj), w.heap.size <= l -> W.heap[l]? = some o -> o.isCells = false -> Kp W (W.putObj l o'))
 (h0 : I [] w) (a₁ : α -> Act)
 (hassign : ∀ (l : Nat) (x : α) (W : World) (K : Act -> World -> Prop), K (a₁ x) W →
 assign.wpIn (F.inRound l) (n - 1 - 1) P (Exit.then K (fun _ _ _ => False)) {tmps := (ps.zip (encs x)).foldl (fun t (p, v) => t.setIfInBounds p v) a.tmps, defers := [] } W)
 (hbody : ∀ (l : Nat) (pre : List α) (x : α) (W : World), w.heap.size <= l -> (∃ r, W.heap[l]? = some (.loop r)) -> I pre W -> G pre x W -> pre.length < N -> body.wpIn (F.inRound l) (n - 1 - 1) P (GoesOn w.heap.size Kp I (pre ++ [x]) W) (a₁ x) W)
 (hdone : ∀ (D : Nat) (xs : List α) (W : World), w.heap.size <= D -> S xs W -> I xs W -> W.heap[D]? = some (.deferred (some [])) -> Q .normal {a with defers := {target := .collected D, args := #[] } :: a.defers } W) :
  (Code.rangeFunc g ps assign body).wpIn F n P Q a w := by
 refine wpIn_rangeFunc fun fn hfn => ?_
 rw [hro]
 obtain ⟨L, hL⟩ : ∃ L : LoopState -> Loop, L = fun st => { state := st, pending := none, fn := fn, tmps := a.tmps, params := ps, assign := assign, body := body, defers := w.heap.size } := ⟨_, rfl⟩
 have hen := run_enterLoop_outer (P := P) (w := w) fn a.tmps ps assign body
 have hloop : (w.alloc (.deferred (some []))).alloc (.loop { state := .ready, pending := none, fn := fn, tmps := a.tmps, params := ps, assign := assign, body := body, defers := w.heap.size }) = (w.alloc (.deferred (some []))).alloc (.loop (L .ready)) := by rw [hL]
 rw [hloop] at hen
 have s1 : (w.alloc (.deferred (some []))).heap.size = w.heap.size + 1 := by simp
 have hl1 : ((w.alloc (.deferred (some []))).alloc (.loop (L .ready))).heap[w.heap.size + 1]? = some (.loop (L .ready)) := by
  have := World.alloc_heap_new (w.alloc (.deferred (some []))) (.loop (L .ready))
  rwa [s1] at this
 have hd1 : ((w.alloc (.deferred (some []))).alloc (.loop (L .ready))).heap[w.heap.size]? = some (.deferred (some [])) :=
  (kG _ _ _ (by rw [s1]; omega)).trans (World.alloc_heap_new w _)
 have hi1 : I [] ((w.alloc (.deferred (some []))).alloc (.loop (L .ready))) := hI.alloc _ (hI.alloc _ h0)
 have hb1 : Below w.heap.size w ((w.alloc (.deferred (some []))).alloc (.loop (L .ready))) := ((kB _ w).alloc (kR _) _).alloc (by rw [s1]; omega) _
 have s2 : ((w.alloc (.deferred (some []))).alloc (.loop (L .ready))).heap.size = w.heap.size + 2 := by simp
 generalize (w.alloc (.deferred (some []))).alloc (.loop (L .ready)) = W1 at *
 have hset : ∀ (W : World) (st : LoopState) (o : Obj), W.heap[w.heap.size + 1]? = some (.loop (L st)) -> (W.putObj (w.heap.size + 1) o).heap[w.heap.size + 1]? = some o := fun W st o h => World.putObj_heap_same (Array.getElem?_eq_some_iff.1 h).1
 have hstay : ∀ (W : World) (o : Obj), (W.putObj (w.heap.size + 1) o).heap[w.heap.size]? = W.heap[w.heap.size]? := fun W o => World.putObj_heap_other (by omega)
 refine ⟨w.heap.size + 1, [{ target := .collected w.heap.size, args := #[] }], W1, { target := .fn (.func gf) lb, args := #[.func (.yield (w.heap.size + 1)) #[] #[]] }, W1, gf, #[.func (.yield (w.heap.size + 1)) #[] #[]] ++ lb, W1, hen, ?_, ?_, ?_, fun _ => h1, ?_⟩
 ·simp only [resolve, hg]
  simp [go_sem]
 ·intro f' hf'
  simp [Target.leads] at hf'
  subst hf'
  exact hFg
 ·simp [invoke, go_sem, eg]
 ·refine (hseq (w.heap.size + 1) (fun pre W => I pre W /\ W.heap[w.heap.size + 1]? = some (.loop (L .ready)) /\ W.heap[w.heap.size]? = some (.deferred (some []))) W1 hb1 ?_ ?_ ⟨hi1, hl1, hd1⟩).mono ?_
  ·rintro s A B ⟨x1, x2, x3⟩ hgr
   have hlt := (Array.getElem?_eq_some_iff.1 x2).1
   exact ⟨hI s A B none x1 hgr (fun r e => by cases e), (hgr.block _ hlt (fun e => by cases e)).trans x2, (hgr.block _ (by omega) (fun e => by cases e)).trans x3⟩
  ·rintro pre x W ⟨hi, hl, hd⟩ hGx hlen
   have hy := run_yield (P := P) (args := encs x) hl (by rw [hL]; exact hps x)
   rw [hL] at hy
   refine ⟨fn, _, assign, body, hy, roundIn_of_wpIn hfn (hassign _ x W _ ⟨_, run_beginRound hl (by rw [hL]), ?_⟩)⟩
   have hbz : ({ L .ready with state := .busy } : Loop) = L .busy := by rw [hL]
   rw [hbz]
   have hl2 := hset W _ (.loop (L .busy)) hl
   have hd2 := (hstay W (.loop (L .busy))).trans hd
   refine wpIn_mono (hbody _ pre x _ (by omega) ⟨_, hl2⟩ (hI.putObj _ hi (by omega) hl rfl rfl) ((hG pre x).putObj (s := ()) _ hGx (by omega) hl rfl) hlen) ?_
   rintro e a3 W3 hp
   cases e with
   | normal =>
    obtain ⟨k3, kp3, i3⟩ := hp
    have hl3 := k3.same _ _ (by omega) hl2 rfl
    have hd3 := k3.same _ _ (kR _) hd2 rfl
    have hr := run_endRound (P := P) none hl3
    have hrz : ({ L .busy with state := if (none : Option Code).isNone then .ready else .done, pending := none } : Loop) = L .ready := by rw [hL]; rfl
    rw [hrz] at hr
    exact ⟨_, _, hr, rfl, ⟨hI.putObj _ i3 (by omega) hl3 rfl rfl, hset W3 _ _ hl3, (hstay W3 _).trans hd3⟩, hKt (hKb _ _ _ _ (by omega) hl rfl) (hKt kp3 (hKb _ _ _ _ (by omega) hl3 rfl))⟩
   | _ => exact hp.elim
  ·rintro e W2 ⟨⟨v, rfl⟩, xs, hs, hi, hl, hd⟩
   have hend := run_endLoop (P := P) hl (by rw [hL]; simp)
   exact ⟨none, _, by rw [hend, hL], hdone _ xs _ (kR _) (hS.putObj _ hs (by omega) hl rfl) (hI.putObj _ hi (by omega) hl rfl rfl) ((hstay W2 _).trans hd)⟩
end
structure TxV where
 i : Nat
 A : OA
 n : Nat
 c : Nat
def TxV.v (x : TxV) : Value := .slice x.A x.n x.c
def TxV.enc (x : TxV) : Array Value := #[.int .i64 (x.i : Int), x.v]
def KeepT (Ks : LN) (w w' : World) : Prop := w.heap.size <= w'.heap.size /\ (∀ k ∈ Ks, w'.heap[k]? = w.heap[k]?) /\ ∀ (k : Nat) (cs : Array Value) (f : Nat × Nat), w.heap[k]? = some (Obj.cells cs 5 f) -> w'.heap[k]? = some (Obj.cells cs 5 f)
theorem KeepT.refl (Ks : LN) (w : World) : KeepT Ks w w := ⟨kR _, fun _ _ => rfl, fun _ _ _ h => h⟩
theorem KeepT.trans {a b c : World} (h : KeepT Ks a b) (h' : KeepT Ks b c) : KeepT Ks a c := ⟨kT h.1 h'.1, fun k hk => (h'.2.1 k hk).trans (h.2.1 k hk), fun k cs f hc => h'.2.2 k cs f (h.2.2 k cs f hc)⟩
theorem KeepT.below (hb : Below w.heap.size w w') (hK : ∀ k ∈ Ks, k < w.heap.size) : KeepT Ks w w' := ⟨hb.size, fun k hk => hb.block k (hK k hk), fun k cs f h => (hb.block k (Array.getElem?_eq_some_iff.1 h).1).trans h⟩
theorem KeepT.put {l : Nat} {o o' : Obj} (hK : ∀ k ∈ Ks, k < l) (hl : w.heap[l]? = some o) (ho : o.isCells = false) : KeepT Ks w (w.putObj l o') :=
 ⟨by simp, fun k hk => World.putObj_heap_other (by have := hK k hk; omega), fun k cs f h => by
  by_cases e : k = l
  ·subst e
   rw [hl] at h
   injection h with h
   subst h
   cases ho
  ·rw [World.putObj_heap_other e]; exact h⟩
theorem Own.keepT {v : Value} {bs : LN} (h : Own w base v n bs) (hk : KeepT Ks w w') : Own w' base v n bs := by
 refine x06 h (fun k hk' => ?_)
 rcases h.2 with ⟨rfl, _⟩ | ⟨g, cap, cur, rfl, _, hh, _⟩
 ·have := x00.1 hk'; simp [Value.ownBlock] at this
 ·have hg : k = g := by have := x00.1 hk'; simp [Value.ownBlock] at this; exact this.symm
  subst hg
  rw [hh]
  exact hk.2.2 k cur (0, 0) hh
def TxOf (txs : List LN) (B : Nat) (pre : List TxV) (x : TxV) (w : World) : Prop := x.i = pre.length /\ ∃ t, txs[x.i]? = some t /\ x.n = t.length /\ Own w B x.v t.length t
def TxsCame (txs : List LN) (B m : Nat) (xs : List TxV) (w : World) : Prop := xs.length = m /\ ∀ i t, i < m -> txs[i]? = some t -> ∃ x, xs[i]? = some x /\ x.i = i /\ x.n = t.length /\ Own w B x.v t.length t
theorem xOI {gj : Nat} {vs : Value} {m : Nat} {stuck : Bool} (hJ : Blk w gj 176 (jcells n g gen vs (.slice A m c) u stuck)) :
  Calls prog 73 #[.pointer (some ⟨gj, 0, none⟩)] w fun e w' => e = .returned (.func (.func 125) #[] #[.pointer (some ⟨w.heap.size, 0, none⟩)]) /\ Below w.heap.size w w' /\ Boxed w' w.heap.size 42 (.slice A m c) /\ w'.heap.size = w.heap.size + 1 := by
 have q5 : ∀ o, (w.alloc o).cell? ⟨gj, 5, none⟩ = some (.slice A m c) := fun o => (hJ.alloc o).cell 5
 clear hJ
 go_enter func73, ntmps73
 go_wp2
 go_ret
 refine ⟨rfl, ?_, ?_, ?_⟩
 ·exact (kB _ _).alloc (kR _) _
 ·exact Boxed.new w _ _
 ·simp
theorem xGX (n₀ Bs base : Nat) (vt : Value) (txs : List LN) (us : List Value) (w : World) (hn₀ : n₀ <= w.heap.size) (hBs : Bs < w.heap.size) (hx : Boxed w Bs 42 vt) (ht : TxRows w base vt txs us) (h256 : ∀ t ∈ txs, ∀ b ∈ t, b < 256) (hmany : txs.length <= 100000) (hlong : ∀ t ∈ txs, t.length <= 20000) :
    Gives Fence.wide 4 prog 125 #[.pointer (some ⟨Bs, 0, none⟩)] TxV.enc txs.length (TxOf txs n₀) (TxsCame txs n₀ txs.length) (KeepT (Bs :: txBlks vt us)) w := by
  intro l J W hW hJ HY hJ0
  have hro : Fence.wide.round = none := rfl
  obtain ⟨A, c, rfl⟩ := x0H ht.1
  have hXW := kH (show Boxed W Bs 42 (.slice A txs.length c) from (hW.block Bs hBs).trans hx)
  have hTW := kH (ht.of (w' := W) (fun k hk => hW.block k (ht.over k hk).2))
  have hKl := kH (show ∀ k ∈ Bs :: txBlks (.slice A txs.length c) us, k < w.heap.size from fun k hk => by
    rcases kQ hk with rfl | hk
    · exact hBs
    · exact (ht.over k hk).2)
  have hsW := hW.size
  have hcl := hXW.out.cell
  have HJ := kH hJ
  have HY := kH HY
  have HLO := kH hlong
  have H256 := kH h256
  clear hJ hx ht hlong h256 hW
  refine callsIn_of_wp func125 rfl trivial ?_ hro
  simp only [ntmps125, size_toArray, length_cons, length_nil, Nat.reduceAdd, Nat.reduceSub, Array.replicate_succ, Array.replicate_zero, push_toArray, append_toArray, nil_append, cons_append]
  gi_wp2
  clear hcl
  gi_loopw [3, 4, 7] (fun a b i wr => ∃ (k : Nat) (xs : List TxV), k <= txs.length /\ i = .int .i64 k /\ J xs wr /\ TxsCame txs n₀ k xs wr /\ KeepT (Bs :: txBlks (.slice A txs.length c) us) W wr) (fun _ _ i _ => txs.length - (intOf i).toNat)
  case atStart => exact ⟨0, [], kY _, rfl, hJ0, ⟨rfl, fun i t h => absurd h (Nat.not_lt_zero _)⟩, KeepT.refl _ _⟩
  case round =>
    obtain ⟨k, xs, hk, rfl, hJs, hcame, hkp⟩ := hrel
    by_cases hlt : k < txs.length
    · have hTr := hTW.out.of (w' := wr) (fun q hq => hkp.2.1 q (kM _ hq))
      have hx0 : txs[k]? = some (txs[k]'hlt) := List.getElem?_eq_getElem _
      have hmem : txs[k]'hlt ∈ txs := List.getElem_mem _
      generalize txs[k]'hlt = t at *
      have htl := HLO.out t hmem
      have ht256 := H256.out t hmem
      obtain ⟨ad, u, hA, -, hu, hc⟩ := (kV hTr.1).at_ hlt
      subst hA
      obtain ⟨B, cc, e1, ho⟩ := hTr.2.2 k t hx0
      rw [e1] at hu
      injection hu with hu
      subst hu
      have HO := kH (ho.bytes ht256)
      have hk0 : (0 : Int) <= (k : Int) := by omega
      have hk1 : (k : Int) < (txs.length : Int) := by omega
      have HS := kH (kA hJs (kA hcame (kA hkp hx0)))
      have hsr := hkp.1
      clear hJs hcame hkp hx0 hTr ho e1 hmem
      gi_wp2_with (refine ⟨trivial, ?_⟩
                   gi_at_call 105
                   refine (callsIn_wide.2 (x0Q B t.length cc t _ _ (by omega) HO.out)).mono ?_
                   rintro e W2 ⟨v2, rfl, ho2, b2⟩
                   obtain ⟨A2, c2, rfl⟩ := x0H ho2
                   have g2 : wr.grownBy W2 none := ⟨b2.os, b2.tape, b2.output, b2.size, fun i hi _ => b2.block i hi⟩
                   have hJ2 := HJ.out xs wr W2 HS.out.1 g2
                   have HK2 := kH (show KeepT (Bs :: txBlks (.slice (some ad) txs.length c) us) wr W2 from KeepT.below b2 (fun q hq => by have := hKl.out q hq; omega))
                   have HO3 := kH (show Own W2 n₀ (.slice A2 t.length c2) t.length t from ho2.weaken (by omega))
                   obtain ⟨fn, tmps, assign, body, hy, hR⟩ := HY.out xs ⟨k, A2, t.length, c2⟩ W2 hJ2 ⟨HS.out.2.1.1.symm, t, HS.out.2.2.2, rfl, HO3.out⟩ (by rw [HS.out.2.1.1]; exact hlt)
                   clear g2 hJ2 ho2 b2
                   dsimp only [TxV.enc, TxV.v] at hy)
      refine hR.mono ?_
      rintro e W3 ⟨rfl, hJ3, hk3⟩
      have HJ3 := kH (kA hJ3 hk3)
      clear hJ3 hk3 hR
      gi_wp2
      go_roundw
      case rel =>
        refine ⟨k + 1, _, by omega, by go_num, HJ3.out.1, ?_, HS.out.2.2.1.trans (HK2.out.trans HJ3.out.2)⟩
        have hl := HS.out.2.1.1
        refine ⟨by simp [hl], fun i t' hi ht' => ?_⟩
        by_cases e : i < k
        · obtain ⟨x, y1, y2, y3, y4⟩ := HS.out.2.1.2 i t' e ht'
          exact ⟨x, by rw [List.getElem?_append_left (by omega)]; exact y1, y2, y3, (y4.keepT HK2.out).keepT HJ3.out.2⟩
        · obtain rfl : i = k := by omega
          obtain rfl : t = t' := Option.some.inj (HS.out.2.2.2.symm.trans ht')
          exact ⟨⟨i, A2, t.length, c2⟩, by rw [List.getElem?_append_right (by omega), hl]; simp, rfl, rfl, HO3.out.keepT HJ3.out.2⟩
      case measure => simp [intOf]; omega
    · obtain rfl : k = txs.length := by omega
      gi_wp2
      go_end0
      exact ⟨⟨_, rfl⟩, xs, hcame, hJs⟩
end
section
open Go.RowKit Go.Shelf Go.BigFrame
attribute [local go_sem] Oper.semAt_some
inductive Redo : Mod -> LN -> Mod -> Prop
  | op {nm : LN} {xs : List StepV} {M M' : Mod} {told : List LN} : Small nm -> nm.length <= 1000000 -> (∀ x ∈ xs, StepOk x) -> xs.length <= 1000 -> DoR M nm xs M' 0 told -> Redo M (opB nm xs) M'
inductive Redos : Mod -> List LN -> Mod -> Prop
 | nil {M : Mod} : Redos M [] M
 | snoc {M M' M'' : Mod} {txs : List LN} {tx : LN} : Redos M txs M' -> Redo M' tx M'' -> Redos M (txs ++ [tx]) M''
theorem Redo.inv {tx : LN} (h : Redo M tx M') (hI : Inv n M) : M'.fl.length = M.fl.length /\ Inv (n + 16) M' := by
 cases h with
 | op _ _ _ _ hd =>
  obtain ⟨a, b, c⟩ := x7F hI hd
  exact ⟨b, a⟩
theorem Redos.cut (h : Redos M txs M') : ∀ k t, txs[k]? = some t -> ∃ M1 M2, Redos M (txs.take k) M1 /\ Redo M1 t M2 /\ Redos M (txs.take (k + 1)) M2 := by
 induction h with
 | nil => intro k t h; simp at h
 | @snoc M' M'' txs tx h0 h1 ih =>
  intro k t hk
  by_cases hlt : k < txs.length
  ·rw [List.getElem?_append_left hlt] at hk
   obtain ⟨M1, M2, a1, a2, a3⟩ := ih k t hk
   exact ⟨M1, M2, by rw [List.take_append_of_le_length (by omega)]; exact a1, a2, by rw [List.take_append_of_le_length (by omega)]; exact a3⟩
  ·have hl := (List.getElem?_eq_some_iff.1 hk).1
   rw [kN, length_singleton] at hl
   obtain rfl : k = txs.length := by omega
   have ht : t = tx := by
    rw [List.getElem?_append_right (kR _)] at hk
    simpa using hk.symm
   subst ht
   exact ⟨M', M'', by rw [take_left]; exact h0, h1, by rw [take_of_length_le (by simp)]; exact .snoc h0 h1⟩
theorem xDP {w W' : World} {e : TypeId} {v : Value} {xs : List Value} {row : Option Nat} (h : W.ownsRow base e 1 v n xs) (hg : W.grownBy W' row) (hr : ∀ r, row = some r -> B <= r /\ ∃ o : Obj, W.heap[r]? = some o /\ o.isCells = false) : W'.ownsRow base e 1 v n xs := by
 refine World.ownsRow.kept h hg ?_
 rcases hv : v.ownBlock with _ | b
 ·exact .inl rfl
 ·right
  intro e1
  obtain ⟨-, o, ho, hc⟩ := hr b e1.symm
  exact xEJ h ho hc hv
theorem Redos.fn (h : Redos M txs M') : ∃ f : Nat -> Mod, f 0 = M /\ f txs.length = M' /\ ∀ k t, txs[k]? = some t -> Redo (f k) t (f (k + 1)) := by
 induction h with
 | nil => exact ⟨fun _ => M, rfl, rfl, fun k t h => by simp at h⟩
 | @snoc M' M'' txs tx _ h1 ih =>
  obtain ⟨f, a1, a2, a3⟩ := ih
  refine ⟨fun k => if k <= txs.length then f k else M'', ?_, ?_, fun k t hk => ?_⟩
  ·simp [a1]
  ·simp only [kN, length_singleton]
   rw [if_neg (by omega)]
  ·by_cases hlt : k < txs.length
   ·rw [List.getElem?_append_left hlt] at hk
    have h2 := a3 k t hk
    simp only
    rw [if_pos (by omega), if_pos (by omega)]
    exact h2
   ·have hl := (List.getElem?_eq_some_iff.1 hk).1
    rw [kN, length_singleton] at hl
    obtain rfl : k = txs.length := by omega
    have ht : t = tx := by
     rw [List.getElem?_append_right (kR _)] at hk
     simpa using hk.symm
    subst ht
    simp only
    rw [if_pos (kR _), if_neg (by omega), a2]
    exact h1
theorem xJU {f : Nat -> Mod} (h0 : Inv n (f 0)) (h : ∀ k t, txs[k]? = some t -> Redo (f k) t (f (k + 1))) : ∀ k, k <= txs.length -> Inv (n + 16 * k) (f k) /\ (f k).fl.length = (f 0).fl.length
 | 0, _ => ⟨by simpa using h0, rfl⟩
 | k + 1, hk => by
  obtain ⟨a1, a2⟩ := xJU h0 h k (by omega)
  obtain ⟨b1, b2⟩ := (h k _ (List.getElem?_eq_getElem (by omega))).inv a1
  exact ⟨b2.mono (by omega), b1.trans a2⟩
theorem StoreAt.loop {Z : LN} {gs ms gp r : Nat} {kv : KV} {G : LN} (h : StoreAt w Z gs ms gp r c A M kv) (ho : Only G w w') (hG : ∀ k ∈ G, ∃ o : Obj, w.heap[k]? = some o /\ o.isCells = false /\ o.isWalk = false) : StoreAt w' Z gs ms gp r c A M kv := by
 have hodd : ∀ k ∈ G, ∀ t, Odd w t k := fun k hk t cs hb => by
  obtain ⟨o, h1, h2, _⟩ := hG k hk
  have h3 := h1.symm.trans hb
  injection h3 with h3
  subst h3
  cases h2
 have hmap : ∀ {P : Program} {kt : TypeId} {b : Nat} {l : KV}, SMap P kt w b l -> b ∉ G := fun {P kt b l} hs hm => by
  obtain ⟨o, h1, _, h3⟩ := hG b hm
  obtain ⟨es, ck, h4, _⟩ := hs
  have h5 := h1.symm.trans h4
  injection h5 with h5
  subst h5
  cases h3
 refine ⟨h.st.off ho (fun k hk => ⟨fun e => hodd k hk _ _ (e ▸ h.st.blk), fun e => hmap h.st.map (e ▸ hk), fun hf => ?_⟩), h.obs.imp fun p q hr => ⟨hr.1, ?_⟩⟩
 ·rcases x1X hf with rfl | ⟨hf2, rfl⟩
  ·exact hodd _ hk _ _ h.st.sp.blk
  ·rcases h.st.sp.row with e | ⟨_, cs, hb, _⟩
   ·exact absurd e hf2
   ·exact hodd _ hk _ _ hb
 ·obtain ⟨go, mb, c1, ce, D, E, kv1, e, hmb, hat⟩ := hr.2
  exact ⟨go, mb, c1, ce, D, E, kv1, e, hmb, hat.only ho (fun k hk _ => ⟨hodd k hk _, hodd k hk _, hodd k hk _⟩) (hmap hat.map)⟩
theorem xEQ (W : World) (tmps : Array Value) (p q : Nat) (v u : Value) (h2 : tmps.getD 2 undef = .pointer (some ⟨p, 0, none⟩)) (h3 : tmps.getD 3 undef = .pointer (some ⟨q, 0, none⟩)) (hp : Blk W p 31 #[v]) (hq : Blk W q 28 #[u]) : (results Tryz.f24 tmps).run prog W = .ok (.tuple #[v, u]) W := by
 have h2' : tmps[2]?.getD undef = .pointer (some ⟨p, 0, none⟩) := by simpa using h2
 have h3' : tmps[3]?.getD undef = .pointer (some ⟨q, 0, none⟩) := by simpa using h3
 have l2 : (loadVar 31 ⟨p, 0, none⟩).run prog W = .ok v W := by
  have q : W.cell? ⟨p, 0, none⟩ = some v := hp.cell 0
  go_simp
 have l3 : (loadVar 28 ⟨q, 0, none⟩).run prog W = .ok u W := by
  have q : W.cell? ⟨q, 0, none⟩ = some u := hq.cell 0
  go_simp
 unfold results
 rw [Tryz.results24]
 simp [h2', h3', asAddr, l2, l3]
theorem x3N {F : Fence} {nF : Nat} {ops : Array Oper} {rest : List Oper} {o : Oper} (hgd : o.guard = none) (ty : TypeId) (x y : Operand) (ho : o.op = .store ty x y)
 (g i : Nat) (t : TypeId) (cs : Array Value) (v : Value) (hx : a.eval x = .pointer (some ⟨g, i, none⟩)) (hy : a.eval y = v) (hB : Blk w g t cs) (hs : i < cs.size) (hi : (prog.info? ty).map (·.size) = some 1) (h1 : v.oneCell' = true)
 (h : ∀ w', Blk w' g t (cs.setIfInBounds i v) -> Only [g] w w' -> w'.heap.size = w.heap.size -> wpListIn F nF prog ops Q rest (a.put o.dst undef) w') : wpListIn F nF prog ops Q (o :: rest) a w :=
 wpListIn_plain hgd fun K' hK' => by
  unfold Oper.wpIn
  refine ⟨?_, ?_⟩
  ·simp [Oper.about, ho]
  ·rw [Oper.semAt_plain F _ _ (by rw [ho]; intro c hc'; cases hc')]
   unfold execOp
   simp only [ho, hx, hy, Instr.storeAt, Instr.sureAddr, Sem.run_bind, Sem.run_pure, kS, x2H w g i ty v (hB.there (by omega)) hi h1]
   exact hK' _ _ (h _ (hB.set_ i v) ((kU _ _).setCell (.inl (by simp)) _) (by simp [World.setCell]))
theorem xLU {F : LN} {f : Int -> Sec} {s : Nat} {M0 : Mod} {k0 : Nat} (hd : DiskAt w w0.heap.size F g (DM.idle n f s 0)) (hb : Below w0.heap.size w0 w) (hn : n <= 500) (hn8 : 8 <= n) (hT : Tab w0) (hw0 : 0 < w0.heap.size)
 (hs : Shows (DM.idle n f s 0) n gen (putM M0) txs u) (hI : Inv k0 M0) (hk0 : k0 <= 100000) (hNN : InvN M0) (hRS : RiseM M0) (hput : (putM M0).length <= 20000) (hp256 : Small (putM M0)) (hR : Redos M0 txs M) (hmany : txs.length <= 1000) (hlong : ∀ t ∈ txs, t.length <= 20000) (h256 : ∀ t ∈ txs, ∀ b ∈ t, b < 256) :
    CallsIn Fence.wide 5 prog 24 #[.pointer (some ⟨g, 0, none⟩)] w fun e w' => ∃ x : PX, e = .returned (.tuple #[.pointer (some ⟨x.gq, 0, none⟩), .nilIface]) /\ x.g = g /\ JSo w0 w' n x ⟨f, s, gen, putM M0, txs, u, false, 0⟩ M /\ Blk w' x.gq 113 (poolC x.gj x.gs false) /\ w.heap.size <= x.gq /\ Below w.heap.size w w' := by
  have hdn : (DM.idle n f s 0).n = n := rfl
  have hup : (DM.idle n f s 0).gone = false := rfl
  have hwt : (DM.idle n f s 0).wait.length <= 1000000 := by simp [DM.idle]
  obtain ⟨d, hde⟩ := kX (DM.idle n f s 0)
  rw [<- hde] at hd hs hdn hup hwt
  have hro : Fence.wide.round = none := rfl
  have h1 : 1 <= 5 := by omega
  have HD := kH hd
  have HB := kH hb
  have HTAB := kH (x0O hT hb hw0)
  have HOJ := kH (fun w' (hbl : Below w.heap.size w w') => xEO (x32 (hd.of (x1V hbl hd.under)) (hb.trans (hbl.mono hb.size))) hdn (by omega) hn8 hup hwt (x0O hT (hb.trans (hbl.mono hb.size)) hw0) hw0 gen (putM M0) (by omega) txs u hs)
  clear hd hb hs
  refine callsIn_of_wp_marks func24 rfl trivial ?_ hro
  simp only [ntmps24, size_toArray, length_cons, length_nil, Nat.reduceAdd, Nat.reduceSub, Array.replicate_succ, Array.replicate_zero, push_toArray, append_toArray, nil_append, cons_append]
  gi_wp2
  have hba : Below w.heap.size w ((w.alloc (.cells #[.pointer none] 31)).alloc (.cells #[.nilIface] 28)) := ((kB _ w).alloc (kR _) _).alloc (by simp) _
  have Ka2 : Blk ((w.alloc (.cells #[.pointer none] 31)).alloc (.cells #[.nilIface] 28)) w.heap.size 31 #[.pointer none] := (kW w _ _).alloc _
  have Ka3 : Blk ((w.alloc (.cells #[.pointer none] 31)).alloc (.cells #[.nilIface] 28)) (w.heap.size + 1) 28 #[.nilIface] := by
    have := kW (w.alloc (.cells #[.pointer none] 31)) 28 #[.nilIface]
    simpa using this
  obtain ⟨wa, hwa⟩ := kX ((w.alloc (.cells #[.pointer none] 31)).alloc (.cells #[.nilIface] 28))
  have hsa : wa.heap.size = w.heap.size + 2 := by rw [hwa]; simp
  rw [<- hwa] at hba Ka2 Ka3 ⊢
  clear hwa
  refine ⟨trivial, ?_⟩
  refine (callsIn_wide.2 (HOJ.out _ hba)).mono ?_
  rintro e wb ⟨gj, B, cc, vt, us, rfl, hjh, hjb, hjo, hjt, hbb, hgj⟩
  obtain ⟨A, c, rfl⟩ := x0H hjt.1
  have hbab : Below w.heap.size w wb := hba.trans (hbb.mono hba.size)
  have hbw0 : Below w0.heap.size w0 wb := HB.out.trans (hbab.mono HB.out.size)
  have hFu := HD.out.under
  have hsz := hba.size
  have hJX : JX w0 wb g gj d n gen (putM M0) txs u F B cc (.slice A txs.length c) us := by
    have hw := HB.out.size
    refine ⟨HD.out.of (x1V hbab HD.out.under), hbw0, fun q hq => ?_, hjb, hjo.weaken (by omega), ⟨x0B hjt.1 (by omega), hjt.2.1, fun i t hi => ?_⟩, by omega⟩
    · have hnew : wa.heap.size <= q /\ q < wb.heap.size := by
        rw [mem_append, mem_append, mem_singleton] at hq
        rcases hq with hq | hq | rfl
        · exact hjt.over q hq
        · exact x4I hjo (by unfold putM; simp [x04]; omega) q hq
        · exact ⟨hgj, hjb.lt⟩
      refine ⟨hnew.2, fun hm => ?_⟩
      have := hFu q hm
      omega
    · obtain ⟨B1, c1, x1, x2⟩ := hjt.2.2 i t hi
      exact ⟨B1, c1, x1, x0B x2 (by omega)⟩
  have HJX := kH hJX
  have HNJ : Hid (gj ≠ w.heap.size /\ gj ≠ w.heap.size + 1) := kH ⟨by omega, by omega⟩
  have HNR : Hid (∀ q ∈ rowOf (.slice A txs.length c), w.heap.size + 2 <= q) := kH fun q hq => by have := x0G hjt.1 q hq; omega
  have HBB := kH (kA hbab hbb)
  have HK2 := kH (Ka2.below hbb Ka2.lt)
  have HK3 := kH (Ka3.below hbb Ka3.lt)
  have HSA := kH hsa
  have HJS := kH (xHG hjb (hjo.bytes hp256) hput)
  clear hba Ka2 Ka3 hsa hjh hjb hjo hjt hbb hbab hbw0 hJX
  gi_wp2_with (refine ⟨trivial, ?_⟩
               gi_at_call 72
               refine (callsIn_wide.2 HJS.out).mono ?_
               rintro e wc ⟨vs, rfl, hoc, hbc⟩
               obtain ⟨As, cs, rfl⟩ := x0H hoc
               have HOC := kH (kA (hoc.bytes hp256) hbc)
               clear hoc hbc)
  have hju := HJX.out.under
  have htk := xI9 (w := wc) (Z := jf gj (.slice A txs.length c) F) (fun z hz => kL (hju z hz) HOC.out.2.size) (c := cs) HOC.out.1 (by omega) (fun M1 h1 => by
    have h2 := xGG hI hNN hRS (by omega)
    rw [h2] at h1
    injection h1 with h1
    subst h1
    exact ⟨k0, hI.p, by omega, by omega⟩)
  have HTK := kH htk
  clear htk hju
  refine ⟨trivial, ?_⟩
  refine (callsIn_wide.2 HTK.out).mono ?_
  rintro e wd ⟨hbd, ⟨hno, -⟩ | ⟨M1, gs, ms, gp, r, c1, As1, kv, hyes, rfl, hsod, hg1, hg2, hg3, hg4⟩⟩
  · rw [xGO hI hNN hRS (by omega)] at hno
    cases hno
  rw [xGO hI hNN hRS (by omega)] at hyes
  injection hyes with hyes
  subst hyes
  have hbwd : Below wb.heap.size wb wd := HOC.out.2.trans (hbd.mono HOC.out.2.size)
  have HSO := kH (kA hsod (kA hg1 (kA hg2 (kA hg3 hg4))))
  have HBD := kH hbwd
  have HCS := kH HOC.out.2.size
  clear hsod hg1 hg2 hg3 hg4 hbd hbwd HTK HJS HOC
  gi_wp2
  have hbe : Below wd.heap.size wd (wd.alloc (.cells #[.pointer (some ⟨gs, 0, none⟩)] 36)) := x05 _ _
  have Ke : Blk (wd.alloc (.cells #[.pointer (some ⟨gs, 0, none⟩)] 36)) wd.heap.size 36 #[.pointer (some ⟨gs, 0, none⟩)] := kW _ _ _
  have hse : (wd.alloc (.cells #[.pointer (some ⟨gs, 0, none⟩)] 36)).heap.size = wd.heap.size + 1 := by simp
  obtain ⟨we, hwe⟩ := kX (wd.alloc (.cells #[.pointer (some ⟨gs, 0, none⟩)] 36))
  rw [<- hwe] at hbe Ke hse ⊢
  clear hwe
  have hbbe : Below wb.heap.size wb we := HBD.out.trans (hbe.mono HBD.out.size)
  have htxs := xOI (HJX.out.below hbbe).jb
  have HE := kH (kA hbe (kA Ke hbbe))
  clear hbe Ke hbbe
  refine ⟨trivial, ?_⟩
  refine (callsIn_wide.2 htxs).mono ?_
  rintro e wf ⟨rfl, hbf, hxf, hsf⟩
  have HF := kH (kA hbf hxf)
  clear hbf hxf htxs
  gi_wp2
  obtain ⟨fn, hf0, hfl, hfr⟩ := hR.fn
  have hfi := xJU (f := fn) (txs := txs) (n := k0) (hf0 ▸ hI) hfr
  have hbwf : Below wb.heap.size wb wf := HE.out.2.2.trans (HF.out.1.mono HE.out.2.2.size)
  have hsf0 : StoreAt wf (ms :: jf gj (.slice A txs.length c) F) gs ms gp r c1 As1 M0 kv := (HSO.out.1.below HE.out.1).below HF.out.1
  have HSF := kH hsf0
  have HFN := kH (kA hf0 (kA hfl (kA hfr hfi)))
  have hjf := HJX.out.below hbwf
  have HJF := kH hjf
  have HKT : Hid (∀ q ∈ (wd.heap.size + 1) :: txBlks (.slice A txs.length c) us, q < wf.heap.size) := kH fun q hq => by
    rcases kQ hq with rfl | hq
    · omega
    · exact (hjf.tx.over q hq).2
  have HXF := kH HF.out.2
  have hGb : ∀ q ∈ ms :: foot gp r M0.fl, wb.heap.size <= q := fun q hq => by
    have h3 := HSO.out.2.2
    have := HCS.out
    rcases kQ hq with rfl | hq
    · omega
    · rcases x1X hq with rfl | ⟨hne, rfl⟩
      · have := h3.2.1; omega
      · have := h3.2.2 hne; omega
  have hGf : ∀ q ∈ ms :: foot gp r M0.fl, q < wd.heap.size := fun q hq => by
    rcases HSO.out.1.kinds hq with rfl | ⟨cs, _, hB⟩ | ⟨cs, _, _, hB⟩
    · exact HSO.out.1.st.map.lt
    · exact hB.lt
    · exact hB.lt
  have HG := kH (kA hGb hGf)
  have hK6 : Blk wf wd.heap.size 36 #[.pointer (some ⟨gs, 0, none⟩)] := HE.out.2.1.below HF.out.1 HE.out.2.1.lt
  have HK6 := kH hK6
  have hZb : ∀ z ∈ ms :: jf gj (.slice A txs.length c) F, z < wf.heap.size := fun z hz => by
    rcases kQ hz with rfl | hz
    · exact hsf0.st.map.lt
    · exact hjf.under z hz
  have HZB := kH hZb
  have HSE := kH hse
  have hxf : Boxed wf (wd.heap.size + 1) 42 (.slice A txs.length c) := by have := HF.out.2; rwa [hse] at this
  clear hf0 hfl hfr hfi hbwf hsf0 hjf hGb hGf hK6 hZb
  refine xFL hro h1 (gf := 125) (lb := #[.pointer (some ⟨wd.heap.size + 1, 0, none⟩)]) rfl trivial (enters_of func125 (by kernel_rfl) rfl) (encs := TxV.enc) (fun _ => rfl)
    (xGX wf.heap.size (wd.heap.size + 1) w0.heap.size (.slice A txs.length c) txs us wf (by omega) (by omega) hxf HJF.out.tx h256 (by omega) hlong)
    (fun xs W => ∃ kvk, StoreAt W (ms :: jf gj (.slice A txs.length c) F) gs ms gp r c1 As1 (fn xs.length) kvk /\ Only (ms :: foot gp r M0.fl) wf W) ?own1 ?own2 ?own3 (fun h h' => KeepT.trans h h') (fun W l o o' hl ho hc => KeepT.put (fun k hk => by have := HKT.out k hk; omega) ho hc) ⟨kv, by show StoreAt wf _ gs ms gp r c1 As1 (fn 0) kv; rw [HFN.out.1]; exact HSF.out, kU _ _⟩
    (fun x => { tmps := #[.pointer (some ⟨g, 0, none⟩), undef, .pointer (some ⟨w.heap.size, 0, none⟩), .pointer (some ⟨w.heap.size + 1, 0, none⟩), .pointer (some ⟨gj, 0, none⟩), .nilIface, .pointer (some ⟨wd.heap.size, 0, none⟩), undef, x.v, .tuple #[.pointer (some ⟨gj, 0, none⟩), .nilIface], .pointer (some ⟨g, 0, none⟩), .tuple #[.pointer (some ⟨gj, 0, none⟩), .nilIface], .pointer (some ⟨gj, 0, none⟩), .nilIface, .nilIface, .bool false, undef, .tuple #[.pointer (some ⟨gs, 0, none⟩), .nilIface], .pointer (some ⟨gj, 0, none⟩), .slice As (putM M0).length cs, .tuple #[.pointer (some ⟨gs, 0, none⟩), .nilIface], .pointer (some ⟨gs, 0, none⟩), .nilIface, .nilIface, .bool false, undef, .pointer (some ⟨gj, 0, none⟩), .func (.func 125) #[] #[.pointer (some ⟨wd.heap.size + 1, 0, none⟩)], .int .i64 (x.i : Int), x.v, undef, undef, undef, undef, undef, undef, undef, undef, undef], defers := [] }) ?assign ?body ?done
  case own1 =>
    rintro xs W W' row ⟨kvk, h, h'⟩ hg hr
    have ho : Only row.toList W W' := (kU _ _).grown hg (fun q e => .inl (by simp [e]))
    refine ⟨kvk, h.loop ho (fun q hq => ?_), h'.grown hg (fun q e => .inr (hr q e).1)⟩
    have e : row = some q := by simpa using hq
    exact (hr q e).2
  case own2 =>
    rintro xs W W' row ⟨h1, h2⟩ hg hr
    refine ⟨h1, fun i t hi ht => ?_⟩
    obtain ⟨x, y1, y2, y3, y4⟩ := h2 i t hi ht
    exact ⟨x, y1, y2, y3, xDP (w := w) y4 hg hr⟩
  case own3 =>
    rintro pre x xs W W' row ⟨y0, t, y1, y2, y3⟩ hg hr
    exact ⟨y0, t, y1, y2, xDP (w := w) y3 hg hr⟩
  case assign =>
    rintro l x W K hK
    have HK := kH hK
    clear hK
    unfold TxV.enc
    gi_wp2
    exact HK.out
  case body =>
    rintro l pre x W hlW ⟨rl, hrl⟩ ⟨kvk, hst, hon⟩ ⟨hxi, t, hxt, hxn, hxo⟩ hlt
    clear hrl
    obtain ⟨i, A2, n2, c2⟩ := x
    dsimp only [TxV.v] at hxi hxt hxn hxo ⊢
    subst hxi hxn
    have hredo := HFN.out.2.2.1 pre.length t hxt
    obtain ⟨hinv, hlen⟩ := HFN.out.2.2.2 pre.length (by omega)
    have htm := mem_of_getElem? hxt
    have K6 : Blk W wd.heap.size 36 #[.pointer (some ⟨gs, 0, none⟩)] := HK6.out.of (hon.block _ HK6.out.lt (x1J HK6.out (HSF.out.odd (by decide) (by decide))))
    have q6 : W.cell? ⟨wd.heap.size, 0, none⟩ = some (.pointer (some ⟨gs, 0, none⟩)) := K6.cell 0
    have hfl0 : (fn pre.length).fl.length = M0.fl.length := by rw [hlen, HFN.out.1]
    have htb : Bytes W W.heap.size A2 t.length t := hxo.bytes (h256 t htm)
    have htl := hlong t htm
    have HRD : Hid (∃ (M1 : Mod), M1 = fn (pre.length + 1) /\ Calls prog 74 #[.pointer (some ⟨gs, 0, none⟩), .slice A2 t.length c2] W fun e w' => e = .returned (.bool true) /\ ∃ kv', StoreAt w' (ms :: jf gj (.slice A txs.length c) F) gs ms gp r c1 As1 M1 kv' /\ Only (ms :: foot gp r M0.fl) W w') := kH (by
      generalize fn pre.length = MA at *
      generalize fn (pre.length + 1) = MB at *
      cases hredo with
      | op b1 b2 b3 b4 b5 =>
        refine ⟨_, rfl, ?_⟩
        have := xIR hst (by simp) (fun z hz => kL (HZB.out z hz) hon.size) hinv (by omega) _ _ b1 b2 b3 b4 (by omega) htb (kR _) b5 (c := c2)
        rw [x22 hfl0] at this
        exact this)
    obtain ⟨M1, hM1, hrd⟩ := HRD.out
    have HRD2 := kH hrd
    have HON := kH hon
    have HM1 := kH hM1
    have HST := kH hst
    have HFL := kH hfl0
    clear HRD hrd hredo hinv hlen htm hfl0 htb hst hon hxt hxo K6 hM1
    refine wpIn_block ?_
    gi_wp2_with (refine ⟨trivial, ?_⟩
                 gi_at_call 74
                 refine (callsIn_wide.2 HRD2.out).mono ?_
                 rintro e W2 ⟨rfl, kv2, hst2, hon2⟩
                 have HW2 := kH (kA hst2 hon2)
                 clear hst2 hon2)
    obtain ⟨hst2, hon2⟩ := HW2.out
    have hsw := HON.out.size
    refine ⟨⟨hon2.size, fun q o hq ho hc => ?_⟩, ⟨hon2.size, fun q hq => ?_, fun q cs fr hq => ?_⟩, ⟨kv2, ?_, HON.out.trans hon2 (kF _ _)⟩⟩
    · have hql := (Array.getElem?_eq_some_iff.1 ho).1
      exact (hon2.block q hql (fun hm => by have := HG.out.2 q hm; have := HE.out.1.size; have := HF.out.1.size; omega)).trans ho
    · have h3 := HKT.out q hq
      refine hon2.block q (by omega) (fun hm => ?_)
      have h4 := HG.out.1 q hm
      have h5 := HG.out.2 q hm
      rcases kQ hq with rfl | hq
      · omega
      · have := (HJX.out.tx.over q hq).2
        omega
    · have hql := (Array.getElem?_eq_some_iff.1 hq).1
      refine (hon2.block q hql (fun hm => ?_)).trans hq
      have hno : ∀ {t : TypeId} {cs' : Array Value}, Blk W q t cs' -> t ≠ 5 -> False := fun {t cs'} hb hne => by
        have e := hb.symm.trans hq
        injection e with e
        injection e with e1 e2 e3
        exact hne e2
      have hm' : q ∈ ms :: foot gp r (fn pre.length).fl := by rw [x22 HFL.out]; exact hm
      rcases HST.out.kinds hm' with rfl | ⟨cs2, _, hB⟩ | ⟨cs2, _, _, hB⟩
      · obtain ⟨es, ck, h4, _⟩ := HST.out.st.map
        have e := h4.symm.trans hq
        cases e
      · exact hno hB (by decide)
      · exact hno hB (by decide)
    · rw [kN, length_singleton, <- HM1.out]
      exact hst2
  case done =>
    rintro D xs W hD hS ⟨kvk, hst, hon⟩ hK
    rw [hS.1, HFN.out.2.1] at hst
    have K6 : Blk W wd.heap.size 36 #[.pointer (some ⟨gs, 0, none⟩)] := HK6.out.of (hon.block _ HK6.out.lt (x1J HK6.out (HSF.out.odd (by decide) (by decide))))
    have hbwf : Below wb.heap.size wb wf := HE.out.2.2.trans (HF.out.1.mono (by have := HE.out.2.2.size; have := HSE.out; omega))
    have K2f : Blk wf w.heap.size 31 #[.pointer none] := HK2.out.below hbwf HK2.out.lt
    have K3f : Blk wf (w.heap.size + 1) 28 #[.nilIface] := HK3.out.below hbwf HK3.out.lt
    have K2 : Boxed W w.heap.size 31 (.pointer none) := K2f.of (hon.block _ K2f.lt (x1J K2f (HSF.out.odd (by decide) (by decide))))
    have K3 : Boxed W (w.heap.size + 1) 28 .nilIface := K3f.of (hon.block _ K3f.lt (x1J K3f (HSF.out.odd (by decide) (by decide))))
    have q6 : W.cell? ⟨wd.heap.size, 0, none⟩ = some (.pointer (some ⟨gs, 0, none⟩)) := K6.cell 0
    have HDN := kH (kA hst (kA hon hK))
    have hbd : ∀ w, (Instr.build 113 #[(0, .pointer (some ⟨gj, 0, none⟩)), (1, .pointer (some ⟨gs, 0, none⟩))]).run prog w = .ok (.agg (poolC gj gs false)) w := fun w => by kernel_rfl
    have HK2W := kH K2
    have HK3W := kH K3
    have hlt2 := K2f.lt
    have hlt3 := K3f.lt
    have hbwf' := kH hbwf
    obtain ⟨W4, hW4⟩ := kX (W.alloc (.cells #[.pointer (some ⟨gj, 0, none⟩), .pointer (some ⟨gs, 0, none⟩), .bool false] 113))
    have hb4 : Below W.heap.size W W4 := by rw [hW4]; exact x05 _ _
    have KP : Blk W4 W.heap.size 113 (poolC gj gs false) := by rw [hW4]; exact kW _ _ _
    have HW4 := kH hW4
    have HB4 := kH (kA hb4 KP)
    have HK24 := kH (show Blk W4 w.heap.size 31 #[.pointer none] from Blk.below K2 hb4 (Blk.lt K2))
    have HK34 := kH (show Blk W4 (w.heap.size + 1) 28 #[.nilIface] from Blk.below K3 hb4 (Blk.lt K3))
    have hWsz := hon.size
    clear hst hon hK K6 K2f K3f hS K2 K3 hW4 hb4 KP hbwf
    gi_wp2_with (first
      | rw [<- HW4.out]
      | (refine x3N rfl 31 _ _ rfl w.heap.size 0 31 _ (.pointer (some ⟨W.heap.size, 0, none⟩)) rfl rfl HK24.out (by simp) (by kernel_rfl) rfl ?_; intro w7 K7 o7 s7)
      | (refine x3N rfl 28 _ _ rfl (w.heap.size + 1) 0 28 _ .nilIface rfl rfl (HK34.out.of (o7.block _ HK34.out.lt (by simp))) (by simp) (by kernel_rfl) rfl ?_; intro w8 K8 o8 s8))
    have hst := HDN.out.1
    have hon := HDN.out.2.1
    have hK := HDN.out.2.2
    have hDlt := (Array.getElem?_eq_some_iff.1 hK).1
    have hD4 : W4.heap[D]? = some (.deferred (some [])) := (HB4.out.1.block D hDlt).trans hK
    have hDlt4 := (Array.getElem?_eq_some_iff.1 hD4).1
    have hD7 : w7.heap[D]? = some (.deferred (some [])) := (o7.block D hDlt4 (by simp; omega)).trans hD4
    have hD8 : w8.heap[D]? = some (.deferred (some [])) := (o8.block D (by omega) (by simp; omega)).trans hD7
    refine ⟨by simp, .inl ⟨_, _, rfl, run_takeDeferred hD8, ?_⟩⟩
    have hkp := grownBy_putObj' w8 D (.deferred none)
    obtain ⟨w9, hw9⟩ := kX (w8.putObj D (.deferred none))
    have ho9 : Only [D] w8 w9 := by rw [hw9]; exact (kU _ _).grown hkp (fun q e => .inl (by cases e; simp))
    rw [<- hw9]
    have ho48 : Only [w.heap.size, w.heap.size + 1] W4 w8 := (o7.mono (G := [w.heap.size, w.heap.size + 1]) (fun q hq => by simp at hq; simp [hq])).trans (o8.mono (G := [w.heap.size, w.heap.size + 1]) (fun q hq => by simp at hq; simp [hq])) (kF _ _)
    have K29 : Blk w9 w.heap.size 31 #[.pointer (some ⟨W.heap.size, 0, none⟩)] := by
      have h7 : Blk w7 w.heap.size 31 #[.pointer (some ⟨W.heap.size, 0, none⟩)] := K7
      have h8 := h7.of (o8.block _ h7.lt (by simp))
      exact h8.of (ho9.block _ h8.lt (by simp; omega))
    have K39 : Blk w9 (w.heap.size + 1) 28 #[.nilIface] := by
      have h8 : Blk w8 (w.heap.size + 1) 28 #[.nilIface] := K8
      exact h8.of (ho9.block _ h8.lt (by simp; omega))
    refine ⟨_, xEQ _ _ w.heap.size (w.heap.size + 1) _ _ rfl rfl K29 K39, ?_⟩
    have hszf : wb.heap.size <= wf.heap.size := hbwf'.out.size
    have hszb : w.heap.size + 2 <= wb.heap.size := by have := HBB.out.2.size; have := HSA.out; omega
    have hdr : ∀ q ∈ [D], ∃ o : Obj, w8.heap[q]? = some o /\ o.isCells = false /\ o.isWalk = false := fun q hq => by
      simp at hq
      subst hq
      exact ⟨_, hD8, rfl, rfl⟩
    have hst4 := hst.below HB4.out.1
    have hst8 := hst4.typed ho48 (fun q hq => by
      simp at hq
      rcases hq with rfl | rfl
      · exact ⟨_, _, HK24.out, by decide, by decide, by decide, by decide, by decide, by decide⟩
      · exact ⟨_, _, HK34.out, by decide, by decide, by decide, by decide, by decide, by decide⟩)
    have hst9 := hst8.loop ho9 hdr
    have hFu := HD.out.under
    have hjfn : ∀ q ∈ jf gj (.slice A txs.length c) F, q < wb.heap.size /\ q ≠ w.heap.size /\ q ≠ w.heap.size + 1 := fun q hq => by
      have h1 := HJX.out.under q hq
      unfold jf at hq
      rw [mem_cons, mem_append] at hq
      rcases hq with rfl | hq | hq
      · have := HBB.out.1
        exact ⟨h1, HNJ.out.1, HNJ.out.2⟩
      · have := HNR.out q hq
        omega
      · have := hFu q hq
        omega
    have hw0w := HB.out.size
    have hjW := HJF.out.past hon (fun q hq => ⟨fun hm => by have := HG.out.1 q hq; have := (hjfn q hm).1; omega, HSF.out.odd (by decide) (by decide) q hq, by have := HG.out.1 q hq; omega⟩)
    have hj4 := hjW.below HB4.out.1
    have hj8 := hj4.past ho48 (fun q hq => by
      simp at hq
      rcases hq with rfl | rfl
      · exact ⟨fun hm => (hjfn _ hm).2.1 rfl, Odd.blk HK24.out (by decide), by omega⟩
      · exact ⟨fun hm => (hjfn _ hm).2.2 rfl, Odd.blk HK34.out (by decide), by omega⟩)
    have hj9 := hj8.past ho9 (fun q hq => by
      simp at hq
      subst hq
      refine ⟨fun hm => by have := (hjfn _ hm).1; omega, fun cs hb => ?_, by omega⟩
      have e := hb.symm.trans hD8
      cases e)
    have KP9 : Blk w9 W.heap.size 113 (poolC gj gs false) := by
      have h8 := HB4.out.2.of (ho48.block _ HB4.out.2.lt (by simp; omega))
      exact h8.of (ho9.block _ h8.lt (by simp; omega))
    have hlen := (HFN.out.2.2.2 txs.length (kR _)).2
    rw [HFN.out.2.1, HFN.out.1] at hlen
    have hbW : Below w.heap.size w wf := HBB.out.1.trans (hbwf'.out.mono HBB.out.1.size)
    have hbW2 : Below w.heap.size w W := hbW.trans (hon.below (fun q hq => by have := HG.out.1 q hq; omega) hbW.size)
    have hbW4 : Below w.heap.size w W4 := hbW2.trans (HB4.out.1.mono hbW2.size)
    have hbW8 : Below w.heap.size w w8 := hbW4.trans (ho48.below (fun q hq => by simp at hq; omega) hbW4.size)
    have hbW9 : Below w.heap.size w w9 := hbW8.trans (ho9.below (fun q hq => by simp at hq; omega) hbW8.size)
    refine ⟨⟨W.heap.size, g, gj, B, cc, .slice A txs.length c, us, F, gs, ms, gp, r, c1, As1, kvk, ms :: jf gj (.slice A txs.length c) F⟩, rfl, rfl, ⟨?_, hst9, fun q hq => ?_, ?_, fun q hq => ⟨kM _ hq, fun e => ?_⟩, mem_cons_self, fun z hz => ?_⟩, KP9, by show w.heap.size <= W.heap.size; omega, hbW9⟩
    · have h9 := hj9
      rw [hde] at h9
      exact h9
    · have hq' : q ∈ ms :: foot gp r M.fl := hq
      rw [x22 hlen] at hq'
      have := HG.out.1 q hq'
      omega
    · have h1 := HSO.out.2.1
      have := HCS.out
      show w0.heap.size <= gs
      omega
    · have h1 := (hjfn q hq).1
      have h2 := HG.out.1 ms mem_cons_self
      have e' : q = ms := e
      omega
    · have h1 : z < wf.heap.size := HZB.out z hz
      have := HB4.out.1.size
      have := ho48.size
      have := ho9.size
      omega
end
def xMake : StepV := ⟨6, 0, 0, [], []⟩
def xHi : StepV := ⟨8, 0, 0, [], [104, 105]⟩
def xRead : StepV := ⟨13, 0, 9, [], []⟩
def hiTx : LN := opB [97] [xMake, xHi]
theorem x4H : hiTx.length = 100 := by unfold hiTx; rw [x83]; rfl
theorem xQD : runW (M0 20).bl (startW (M0 20) (keyB [97])) [xMake, xHi] = (⟨true, [104, 105], [], [], []⟩, 0) := by kernel_rfl
theorem xJM (h : DoR (M0 20) [97] [xMake, xHi] M' k told) : k = 0 /\ M'.bl = (M0 20).bl /\ ∃ es, M'.ob = [(keyB [97], ⟨[104, 105], [], es⟩)] := by
 have hr := xQD
 cases h with
 | range h =>
  rcases h with h | h | h
  ·exact absurd h (by decide)
  ·simp at h
  ·simp at h
 | step _ _ _ h => rw [hr] at h; exact absurd rfl h
 | full _ _ _ h hf =>
  rw [hr] at hf
  cases hf with
  | full h1 h2 => exact absurd h2 (by decide)
 | done _ _ _ h hf =>
  rw [hr] at hf ⊢
  exact ⟨rfl, rfl, _, rfl⟩
theorem xPW {es : List (Nat × Nat)} (hob : M.ob = [(keyB [97], ⟨[104, 105], [], es⟩)]) (hbl : M.bl = (M0 20).bl) (h : DoR M [97] [xRead] M' k told) (hI : Inv 1000 M) : k = 0 /\ told = [[104, 105]] := by
 have hs : startW M (keyB [97]) = ⟨true, [104, 105], [], es, []⟩ := by
  unfold startW
  have : gget M.ob (keyB [97]) = some ⟨[104, 105], [], es⟩ := by rw [hob]; rfl
  rw [this]
 have hr : runW M.bl (startW M (keyB [97])) [xRead] = (⟨true, [104, 105], [], es, [[104, 105]]⟩, 0) := by rw [hs, hbl]; rfl
 have hle : lens es = 1 := by
  have h2 := hI.obs (keyB [97], ⟨[104, 105], [], es⟩) (by rw [hob]; simp)
  have h3 := h2.e
  have h4 : needsB [104, 105] = 1 := by decide
  simp only at h3
  omega
 cases h with
 | range h =>
  rcases h with h | h | h
  ·exact absurd h (by decide)
  ·simp at h
  ·simp at h
 | step _ _ _ h => rw [hr] at h; exact absurd rfl h
 | full _ _ _ h hf =>
  rw [hr] at hf
  cases hf with
  | full h1 h2 =>
   have h5 : needsB [104, 105] = 1 := by decide
   simp only at h1 h2
   rw [h5, hle] at h2
   omega
 | done _ _ _ h hf => rw [hr]; exact ⟨rfl, rfl⟩
theorem xG0 : noteJ 40 (J0 40 20) (putM (M0 20)) hiTx = ({J0 40 20 with f := appF 40 (J0 40 20).f 1 0 hiTx, s := (J0 40 20).s + pn hiTx + 3, txs := [hiTx], u := 0 + pn hiTx + 1}, 0) := by
 have h1 : pn hiTx = 1 := by unfold pn; rw [x4H]
 have h2 : needOf hiTx.length = 2 := by rw [x4H]; decide
 have h3 : logOf 40 = 14 := by decide
 unfold noteJ
 rw [if_neg (by rw [h2, h3]; show ¬ (14 - 0 < 2); omega)]
 unfold appJ
 rw [if_neg (by rw [h1, h3]; show ¬ (14 - 0 < 1 + 1); omega), if_neg (by simp [J0])]
 rfl
theorem xOX (h : DoR (M0 20) [97] [xMake, xHi] M' 0 told) : Redos (M0 20) [hiTx] M' :=
 .snoc (txs := []) .nil (.op (by intro b hb; simp at hb; omega) (by decide) (fun x hx => by
  simp at hx
  rcases hx with rfl | rfl
  ·exact ⟨by decide, by decide, by decide, ⟨by decide, (fun b hb => by cases hb)⟩, ⟨by decide, (fun b hb => by cases hb)⟩⟩
  ·exact ⟨by decide, by decide, by decide, ⟨by decide, (fun b hb => by cases hb)⟩, ⟨by decide, (fun b hb => by simp [xHi] at hb; omega)⟩⟩) (by decide) h)
theorem xIW {F : LN} {f : Int -> Sec} {s : Nat} {M0 : Mod} {k0 : Nat} (hd : DiskAt w w0.heap.size F g (DM.idle n f s 0)) (hb : Below w0.heap.size w0 w) (hn : n <= 500) (hn8 : 8 <= n) (hT : Tab w0) (hw0 : 0 < w0.heap.size)
 (hs : Shows (DM.idle n f s 0) n gen (putM M0) txs u) (hI : Inv k0 M0) (hk0 : k0 <= 100000) (hNN : InvN M0) (hRS : RiseM M0) (hput : (putM M0).length <= 20000) (hp256 : Small (putM M0)) (hR : Redos M0 txs M) (hmany : txs.length <= 1000) (hlong : ∀ t ∈ txs, t.length <= 20000) (h256 : ∀ t ∈ txs, ∀ b ∈ t, b < 256) :
  Calls prog 24 #[.pointer (some ⟨g, 0, none⟩)] w fun e w' => ∃ x : PX, e = .returned (.tuple #[.pointer (some ⟨x.gq, 0, none⟩), .nilIface]) /\ x.g = g /\ JSo w0 w' n x ⟨f, s, gen, putM M0, txs, u, false, 0⟩ M /\ Blk w' x.gq 113 (poolC x.gj x.gs false) /\ w.heap.size <= x.gq /\ Below w.heap.size w w' :=
 callsIn_wide.1 (xLU hd hb hn hn8 hT hw0 hs hI hk0 hNN hRS hput hp256 hR hmany hlong h256)
def svMake : SV := ⟨xMake, none, 0⟩
def svHi (g : Nat) : SV := ⟨xHi, some ⟨g, 0, none⟩, 2⟩
def svRead : SV := ⟨xRead, none, 0⟩
theorem xMM (b : Nat) : Small (putM (M0 b)) := fun x hx => by
 have h : (srt ([] : List Key)) = [] := by unfold srt; simp
 unfold putM at hx
 simp only [mem_append] at hx
 rcases hx with hx | hx | hx | hx
 ·exact x0Y _ x hx
 ·simp [flB, flags8, M0] at hx
  omega
 ·exact x0Y _ x hx
 ·simp [M0, h] at hx
theorem xM1 (w : World) : StepsR ((w.alloc (.cells #[.int .u8 104, .int .u8 105] 5 (2, 3))).alloc (.cells #[.int .i64 6, .int .i64 0, .int .i64 0, .string { data := #[] }, .slice none 0 0, .int .i64 8, .int .i64 0, .int .i64 0, .string { data := #[] }, .slice (some ⟨w.heap.size, 0, none⟩) 2 2] 52)) (w.heap.size + 2) (some ⟨w.heap.size + 1, 0, none⟩) [svMake, svHi w.heap.size] := by
 refine ⟨?_, fun s hs => ?_⟩
 ·have := Reads.newN (w.alloc (.cells #[.int .u8 104, .int .u8 105] 5 (2, 3))) ([svMake, svHi w.heap.size].flatMap SV.cs) 2 5 52 (0, 0) rfl
  rw [kJ] at this
  exact this
 ·simp at hs
  rcases hs with rfl | rfl
  ·exact xAV ⟨Reads.none_, fun b hb => by cases hb⟩ rfl rfl ⟨by decide, by decide⟩ (by decide)
  ·refine xAV ?_ rfl rfl ⟨by simp [svHi, xHi], by simp [svHi, xHi]⟩ (by simp [svHi, xHi])
   have := Bytes.new w [104, 105] 5 (2, 3) (fun b hb => by simp at hb; omega)
   exact (this.alloc (by simp) _).more (by omega)
theorem xGR (w : World) : StepsR (w.alloc (.cells #[.int .i64 13, .int .i64 0, .int .i64 9, .string { data := #[] }, .slice none 0 0] 52)) (w.heap.size + 1) (some ⟨w.heap.size, 0, none⟩) [svRead] := by
 refine ⟨Reads.newN w ([svRead].flatMap SV.cs) 1 5 52 (0, 0) rfl, fun s hs => ?_⟩
 simp at hs
 subst hs
 exact xAV ⟨Reads.none_, fun b hb => by cases hb⟩ rfl rfl ⟨by decide, by decide⟩ (by decide)
theorem xHE (w : World) (hT : Tab w) (hpos : 0 < w.heap.size) : Calls prog 10 #[] w fun e w' => e = .returned (.bool true) /\ Below w.heap.size w w' := by
 have HT := kH hT
 clear hT
 go_enter func10, ntmps10
 go_wp2_with fail
 refine (x9F w w.heap.size 40 (by omega) (by omega) (kR _)).mono ?_
 intro e w1 hm
 obtain ⟨g, rfl, F1, hd1, hb1, -⟩ := Holds.made (kB _ _) hm
 rw [xD1] at hd1
 have HFM := kH (x51 (b := 20) hd1 hb1 (by omega) (by omega) (by omega) HT.out hpos)
 clear hm hd1 hb1
 go_wp2_with fail
 refine HFM.out.mono ?_
 rintro e w2 ⟨x, rfl, hxg, hP, -, -⟩
 have HP := kH hP
 have HXG := kH hxg
 clear hP hxg HFM
 have kc := fun (w : World) (C : Array Value) (n c : Nat) => Lib.run_convert_bytes_const (P := prog) w 35 5 C n c underlying35 underlying5
 go_wp2_with fail
 have hA : strOf [97] = { data := #[97] } := by kernel_rfl
 have hsm97 : Small [97] := by intro b hb; simp at hb; omega
 obtain ⟨w3, hw3⟩ := kX ((w2.alloc (.cells #[.int .u8 104, .int .u8 105] 5 (2, 3))).alloc (.cells #[.int .i64 6, .int .i64 0, .int .i64 0, .string { data := #[] }, .slice none 0 0, .int .i64 8, .int .i64 0, .int .i64 0, .string { data := #[] }, .slice (some ⟨w2.heap.size, 0, none⟩) 2 2] 52))
 have hst3 := xM1 w2
 have hb23 : Below w2.heap.size w2 w3 := by rw [hw3]; exact ((kB _ _).alloc (kR _) _).alloc (by simp) _
 have hs3 : w3.heap.size = w2.heap.size + 2 := by rw [hw3]; simp
 rw [<- hw3] at hst3 ⊢
 have hdo := x7Y (HP.out.below hb23) HT.out hpos (by omega) [97] hsm97 (by decide) hst3 (by omega) (cs := 2) (by simp) (by simp) (by show hiTx.length <= _; rw [x4H]; omega)
 rw [hA] at hdo
 have HDO := kH hdo
 have HB23 := kH hb23
 clear hw3 hst3 hb23 hdo
 refine HDO.out.mono ?_
 rintro e w4 ⟨x4, J4, M4, kk, v4, told4, hpd, rfl, hP4, hgq4, hg4, ht4, -, -⟩
 have hpd' : PDo 40 (J0 40 20) (M0 20) [97] [xMake, xHi] J4 M4 kk told4 := hpd
 obtain ⟨told, hdor, rfl, rfl, rfl⟩ : ∃ told, DoR (M0 20) [97] [xMake, xHi] M4 0 told /\ kk = 0 /\ told4 = told /\ J4 = (noteJ 40 (J0 40 20) (putM (M0 20)) hiTx).1 := by
  cases hpd' with
  | read h _ => exact absurd h (by decide)
  | bad _ h hk => exact absurd (xJM h).1 hk
  | full _ _ h => exact absurd (congrArg Prod.snd xG0) h
  | done _ h _ => exact ⟨_, h, rfl, rfl, rfl⟩
 rw [xG0] at hP4
 dsimp only at hP4
 obtain ⟨-, hbl4, es4, hob4⟩ := xJM hdor
 have HD4 := kH (kA hdor (kA hbl4 hob4))
 have HG4 : Hid (x4.g = g) := kH (hg4.trans HXG.out)
 have HP4 := kH hP4
 clear hpd hpd' hP4 hgq4 hg4 ht4 hdor hbl4 hob4 HDO HP kc
 simp only [errV]
 go_wp2_with fail
 have hd4 := HP4.out.js.jx.disk
 rw [HG4.out] at hd4
 obtain ⟨f4, hf4⟩ := kX (appF 40 (J0 40 20).f 1 0 hiTx)
 obtain ⟨s4, hs4⟩ := kX ((J0 40 20).s + pn hiTx + 3)
 have hd4' : DiskAt w4 w.heap.size x4.F g (DM.idle 40 f4 s4 0) := by rw [hf4, hs4]; exact hd4
 have hfine := HP4.out.fine
 have hfine' : JFine f4 40 1 (putM (M0 20)) [hiTx] (0 + pn hiTx + 1) := by rw [hf4]; exact hfine
 have HFI := kH hfine'
 have HS4 := kH hs4
 have HHOLD : Holds w w4 g (DM.idle 40 f4 s4 0) [] := ⟨x4.F, hd4', HP4.out.bel, fun q hq => by cases hq⟩
 have HB4 := kH HP4.out.bel
 clear hd4 hd4' hfine hfine' hf4 hs4
 refine (xHQ HHOLD (by simp [DM.idle]) none 0 0 [] (fun F _ W' _ => Reads.none_)).mono ?_
 rintro e w5 ⟨rfl, ⟨F5, hd5, hb5, -⟩, -⟩
 rw [xI4] at hd5
 have HOP := kH (xIW hd5 hb5 (by omega) (by omega) HT.out hpos HFI.out.show.shows (inv0 (n := 20) (by omega)) (by omega) (fun p hp => by cases hp) ⟨List.Pairwise.nil, fun p hp => by cases hp⟩ (by rw [x3E]; omega) (xMM 20) (xOX HD4.out.1) (by simp) (fun t ht => by simp at ht; subst ht; rw [x4H]; omega) (fun t ht => by
  simp at ht
  subst ht
  exact xBO hsm97 (fun y hy => by
   simp at hy
   rcases hy with rfl | rfl
   ·exact ⟨(fun b hb => by cases hb), (fun b hb => by cases hb)⟩
   ·exact ⟨(fun b hb => by cases hb), (fun b hb => by simp [xHi] at hb; omega)⟩)))
 have HB5 := kH hb5
 clear hd5 hb5 HHOLD
 go_wp2_with fail
 refine HOP.out.mono ?_
 rintro e w6 ⟨y, rfl, hyg, hj6, hpb6, hgq6, hb6⟩
 have hbb : Below w.heap.size w w6 := HB5.out.trans (hb6.mono HB5.out.size)
 have hHd : Holds w w6 g (DM.idle 40 f4 s4 0) [] := ⟨y.F, by have h := hj6.jx.disk; rw [hyg] at h; exact h, hj6.jx.bel, fun q hq => by cases hq⟩
 have HSTP := kH (x3T hHd)
 have hw5 := HB5.out.size
 obtain ⟨i1, i2, i3⟩ := x7F (inv0 (n := 20) (by omega)) HD4.out.1
 have hlen4 : pn hiTx = 1 := by unfold pn; rw [x4H]
 have hs0 : (J0 40 20).s = 7 := by show pn (putM (M0 20)) + 6 = 7; rw [pn0]
 have hs11 : s4 = 11 := by rw [HS4.out, hs0, hlen4]
 have HS11 := kH hs11
 have hP6 : PAt w w6 40 y ⟨f4, s4, 1, putM (M0 20), [hiTx], 0 + pn hiTx + 1, false, 0⟩ 1 M4 :=
  ⟨hj6, hpb6, by omega, HFI.out, ⟨rfl, by show s4 <= _; omega, by show (1 : Nat) <= _; omega, kR _, kY _⟩, i1.mono (by omega), (xAY (M := M0 20) nodup_nil (invA0 20) HD4.out.1).mono (by omega), by rw [i2]; simp [M0], by omega, xAM (M := M0 20) (fun p hp => by cases hp) HD4.out.1, xAU (M := M0 20) ⟨List.Pairwise.nil, fun p hp => by cases hp⟩ HD4.out.1⟩
 have HP6 := kH hP6
 have HYG := kH hyg
 clear hj6 hpb6 hgq6 hb6 hbb hHd i1 i2 i3 hlen4 hs0 hs11 hP6 hyg HOP
 go_wp2_with fail
 refine HSTP.out.mono ?_
 rintro e w' ⟨rfl, rfl⟩
 go_wp2_with fail
 obtain ⟨w7, hw7⟩ := kX (w6.alloc (.cells #[.int .i64 13, .int .i64 0, .int .i64 9, .string { data := #[] }, .slice none 0 0] 52))
 have hst7 := xGR w6
 have hb67 : Below w6.heap.size w6 w7 := by rw [hw7]; exact x05 _ _
 have hs7 : w7.heap.size = w6.heap.size + 1 := by rw [hw7]; simp
 rw [<- hw7] at hst7 ⊢
 have hdo := x7Y (HP6.out.below hb67) HT.out hpos (by omega) [97] hsm97 (by decide) hst7 (by omega) (cs := 1) (by decide) (by decide) (by show (opB [97] [xRead]).length <= _; rw [x83]; decide)
 rw [hA] at hdo
 have HDO := kH hdo
 clear hw7 hst7 hb67 hdo
 refine HDO.out.mono ?_
 rintro e w8 ⟨x8, J8, M8, kk, v8, told8, hpd, rfl, hP8, hgq8, hg8, ht8, -, -⟩
 have hpd' : PDo 40 ⟨f4, s4, 1, putM (M0 20), [hiTx], 0 + pn hiTx + 1, false, 0⟩ M4 [97] [xRead] J8 M8 kk told8 := hpd
 obtain ⟨rfl, rfl, rfl⟩ : kk = 0 /\ told8 = [[104, 105]] /\ J8 = ⟨f4, s4, 1, putM (M0 20), [hiTx], 0 + pn hiTx + 1, false, 0⟩ := by
  cases hpd' with
  | read _ h =>
   obtain ⟨a, b⟩ := xPW HD4.out.2.2 HD4.out.2.1 h (HP6.out.inv.mono (by omega))
   exact ⟨a, b, rfl⟩
  | bad h => exact absurd h (by decide)
  | full h => exact absurd h (by decide)
  | done h => exact absurd h (by decide)
 have hg8' : x8.g = g := hg8.trans HYG.out
 have hHd : Holds w w8 g (DM.idle 40 f4 s4 0) [] := ⟨x8.F, by have h := hP8.js.jx.disk; rw [hg8'] at h; exact h, hP8.bel, fun q hq => by cases hq⟩
 have HSTP8 := kH (x3T hHd)
 have HB8 := kH hP8.bel
 obtain ⟨T8, ct8, tv8, rfl, hrow8, hels8⟩ := ht8
 obtain ⟨u, hu, hur⟩ := hels8.at' (k := 0) rfl
 obtain ⟨ad, u', hT8, -, hu', hc8⟩ := (kV hrow8).at_ (k := 0) (by decide)
 rw [hu] at hu'
 injection hu' with hu'
 subst hu'
 subst hT8
 obtain ⟨A8, c8, rfl, ho8, hsm8, -⟩ := hur
 have ho8' : Bytes w8 w8.heap.size A8 2 [104, 105] := ho8.bytes hsm8
 have hsl := x4C (P := prog) ho8' c8 35 9 5 underlying35 underlying5 underlying9
 rw [show strOf [104, 105] = { data := #[104, 105] } from rfl] at hsl
 have hc8' : w8.cell? ad = some (.slice A8 2 c8) := by simpa [Addr.add] using hc8
 have hs11 := HS11.out
 subst hs11
 clear hpd hpd' hP8 hgq8 hg8 hg8' hHd hrow8 hels8 hu hc8 ho8 ho8' hsm8 HDO HP6 HSTP HP4
 simp only [errV]
 go_wp2_with fail
 refine HSTP8.out.mono ?_
 rintro e w' ⟨rfl, rfl⟩
 go_wp2
 go_ret
 exact ⟨rfl, HB8.out⟩
theorem xN4 {α β : Type} {R S : α -> β -> Prop} {l : List α} (h : Rel2 R l []) : Rel2 S l [] := by cases h; exact .nil
theorem PDo.told_le {J' : JS} {nm : LN} {xs : List StepV} (h : PDo n J M nm xs J' M' k told) : told.length <= xs.length := by
 cases h with
 | read _ d => exact xFZ d
 | bad => simp
 | full => simp
 | done _ d => exact xFZ d
theorem xB0 {ops : Array Oper} {rest : List Oper} {op : Oper} (hw : op.guard = none) (x y : Operand) (ho : op.op = .binOp .neq 66 x y 66)
 (s : Sec) (hx : a.eval x = .agg s.cs.toArray) (hy : a.eval y = .agg s.cs.toArray)
 (h : wpList prog ops Q rest (a.put op.dst (.bool false)) w) : wpList prog ops Q (op :: rest) a w :=
 wpList_plain hw fun _ hK => by
  refine x0A (v := .bool false) (w' := w) ?_ (hK _ _ h)
  have := x8N s s w
  rw [xHF, Bool.not_true] at this
  simp [execOp, ho, hx, hy, this, x6K, Result.andThen]
theorem PAt.wideZ (h : PAt w0 w n x J k M) (hM : M.ob = []) (Z : LN) (hZ : ∀ z ∈ x.Z, z ∈ Z) (hu : ∀ z ∈ Z, z < w.heap.size) : PAt w0 w n {x with Z := Z} J k M := by
 have hob := h.js.so.obs
 rw [hM] at hob
 exact ⟨⟨h.js.jx, ⟨h.js.so.st, by rw [hM]; exact xN4 hob⟩, h.js.nw, h.js.gsN, fun z hz => ⟨hZ z (h.js.zj z hz).1, (h.js.zj z hz).2⟩, hZ _ h.js.zm, hu⟩, h.pb, h.gqN, h.fine, h.sm, h.inv, h.ia, h.fl, h.n5, h.nn, h.rs⟩
theorem PAt.past_disk {G : LN} {d : DM} (h : PAt w0 w n x J k M) (hM : M.ob = []) (hd : DiskAt w w0.heap.size G g d) (ho : Only G w w') (hs : ∀ z ∈ G, z ∉ pfoot x M) (hG : ∀ z ∈ G, w0.heap.size <= z) : PAt w0 w' n {x with Z := G ++ x.Z} J k M := by
 have hw : PAt w0 w n {x with Z := G ++ x.Z} J k M := h.wideZ hM _ (fun z hz => mem_append_right _ hz) (fun z hz => by
  rcases mem_append.1 hz with hz | hz
  ·exact hd.under z hz
  ·exact h.js.zu z hz)
 have hoff := xB6 hd
 have hso := hw.js.so.past ho (fun z hz => ⟨mem_append_left _ hz, fun e => hs z hz (by unfold pfoot; rw [e]; simp)⟩) hoff
 have hjx := hw.js.jx.past ho (fun z hz => ⟨fun hm => hs z hz (by unfold pfoot; simp only [mem_cons, mem_append]; exact .inr (.inr hm)), (hoff z hz).2.2.1, hG z hz⟩)
 exact ⟨⟨hjx, hso, hw.js.nw, hw.js.gsN, hw.js.zj, hw.js.zm, fun z hz => kL (hw.js.zu z hz) ho.size⟩, hw.pb.of (ho.block _ hw.pb.lt (fun hm => hs _ hm (by unfold pfoot; simp))), hw.gqN, hw.fine, hw.sm, hw.inv, hw.ia, hw.fl, hw.n5, hw.nn, hw.rs⟩
theorem xIM {l : List SV} {nm : LN} (hn : nm.length <= 100) (hl : l.length <= 20) (hb : ∀ s ∈ l, StepB s) : (opB nm (l.map SV.x)).length <= 1000000 := by
 have h : ∀ (l : List SV), (∀ s ∈ l, StepB s) -> ((l.map SV.x).map fun x => 40 + x.nm.length + x.dt.length).sum <= 2140 * l.length := fun l => by
  induction l with
  | nil => intro _; simp
  | cons s l ih =>
   intro hb
   have h1 := hb s (by simp)
   have h2 := ih (fun s hs => hb s (by simp [hs]))
   have h3 := h1.1
   have h4 := h1.2
   simp only [map_cons, sum_cons, length_cons]
   omega
 have h1 := h l hb
 rw [x83]
 omega
theorem Twin.new {b : Nat} {y : PX} (hx : PAt w0 w n x J 0 (M0 b)) (hy : PAt w0 w n y J 0 (M0 b)) (hs : ∀ z ∈ pfoot x (M0 b), z ∉ pfoot y (M0 b)) : Twin w0 w n {x with Z := pfoot y (M0 b) ++ x.Z} {y with Z := pfoot x (M0 b) ++ y.Z} J J 0 0 (M0 b) (M0 b) :=
  ⟨hx.wideZ rfl _ (fun z hz => mem_append_right _ hz) (fun z hz => by
      rcases mem_append.1 hz with hz | hz
      · exact hy.lt z hz
      · exact hx.js.zu z hz), hy.wideZ rfl _ (fun z hz => mem_append_right _ hz) (fun z hz => by
      rcases mem_append.1 hz with hz | hz
      · exact hx.lt z hz
      · exact hy.js.zu z hz), hs, fun z hz => mem_append_left _ hz, fun z hz => mem_append_left _ hz⟩
theorem PAt.hold (h : PAt w0 w n x J k M) : Holds w0 w x.g (DM.up J.b n J.f J.s J.l) [] := ⟨x.F, h.js.jx.disk, h.bel, fun q hq => by cases hq⟩
theorem poolTwins_walk (A0 : OA) (c0 : Nat) (os : List PV) (hcp : os.length <= c0) (hlen : os.length <= 9223372036854775807) (hR : PVs w A0 os) (hT : Tab w) : Calls prog 6 #[.slice A0 os.length c0] w fun e w' => e = .returned (.bool true) /\ Below w.heap.size w w' := by
 have hpos := hT.pos
 have HA := kH (xHE w hT hpos)
 have HT := kH hT
 have HR := kH hR
 clear hT hR
 go_enter func6, ntmps6
 go_wp2_with fail
 refine HA.out.mono ?_
 rintro e w1 ⟨rfl, hb1⟩
 have HB1 := kH hb1
 have HLG := kH (xGW (c := c0) (HR.out.since hb1) hcp hlen)
 clear hb1 HA
 go_wp2_with fail
 refine HLG.out.mono ?_
 rintro e w2 ⟨rfl | ⟨rfl, hl25, hsmall⟩, hb2⟩
 ·have HB2 := kH (HB1.out.trans (hb2.mono HB1.out.size))
  clear hb2 HLG
  go_wp2
  go_ret
  exact ⟨rfl, HB2.out⟩
 have hb02 : Below w.heap.size w w2 := HB1.out.trans (hb2.mono HB1.out.size)
 have HSM := kH hsmall
 have HB2 := kH hb02
 clear hb2 hb02 hsmall HLG
 go_wp2_with fail
 refine (x9F w2 w.heap.size 60 (by omega) (by omega) HB2.out.size).mono ?_
 rintro e w3 ⟨g1, F1, rfl, hd1, hb3, hov1⟩
 have H3 := kH (kA hd1 (kA (HB2.out.trans (hb3.mono HB2.out.size)) hov1))
 clear hd1 hb3 hov1
 go_wp2_with fail
 refine (x9F w3 w.heap.size 60 (by omega) (by omega) H3.out.2.1.size).mono ?_
 rintro e w4 ⟨g2, F2, rfl, hd2, hb4, hov2⟩
 have hd14 := H3.out.1.of (x1V hb4 H3.out.1.under)
 have hF1 := H3.out.1.under
 have hb04 := H3.out.2.1.trans (hb4.mono H3.out.2.1.size)
 rw [xD1] at hd14 hd2
 have HF1 := kH (x51 (b := 50) hd14 hb04 (by omega) (by omega) (by omega) HT.out hpos)
 have H4 := kH (kA hd2 (kA hb04 (kA hov2 (kA hF1 hd14))))
 clear hd14 hd2 hb4 hb04 hov2 hF1
 go_wp2_with fail
 refine HF1.out.mono ?_
 rintro e w5 ⟨x, rfl, hxg, hP5, hon5, hfr5⟩
 have hF2u := H4.out.1.under
 have hdis : ∀ z ∈ F2, z ∉ F1 := fun z hz hm => by
  have h1 := H4.out.2.2.1 z hz
  have h2 := H4.out.2.2.2.1 z hm
  omega
 have hd25 := H4.out.1.of (w' := w5) (fun z hz => hon5.block z (hF2u z hz) (hdis z hz))
 have HF2 := kH (x51 (b := 50) hd25 hP5.bel (by omega) (by omega) (by omega) HT.out hpos)
 have H5 := kH (kA hP5 (kA hon5 (kA hfr5 (kA hd25 (kA hxg hdis)))))
 clear hP5 hon5 hfr5 hd25 hxg hF2u hdis HF1
 go_wp2_with fail
 refine HF2.out.mono ?_
 rintro e w6 ⟨y, rfl, hyg, hP6, hon6, hfr6⟩
 have hszs := H5.out.2.1.size
 have hxlt := H5.out.1.lt
 have hF2x : ∀ z ∈ F2, z ∉ pfoot x (M0 50) := fun z hz hm => by
  rcases H5.out.2.2.1 z hm with h1 | h1
  ·exact H5.out.2.2.2.2.2 z hz h1
  ·have := H4.out.1.under z hz
   omega
 have hx6 := H5.out.1.past_disk rfl H5.out.2.2.2.1 hon6 hF2x (fun z hz => by
  have h1 := H4.out.2.2.1 z hz
  have h2 := H3.out.2.1.size
  omega)
 have hsep : ∀ z ∈ pfoot {x with Z := F2 ++ x.Z} (M0 50), z ∉ pfoot y (M0 50) := fun z hz hm => by
  have hz' : z ∈ pfoot x (M0 50) := hz
  rcases hfr6 z hm with h1 | h1
  ·exact hF2x z h1 hz'
  ·have := hxlt z hz'
   omega
 have htw := Twin.new hx6 hP6 hsep
 have HTW := kH htw
 have HG := kH (kA H5.out.2.2.2.2.1 hyg)
 have HBB := kH hP6.bel
 clear hyg hP6 hon6 hfr6 hszs hxlt hF2x hx6 hsep htw HF2
 go_wp2
 go_loopw [52] (fun iv wr => ∃ (k : Nat) (x' y' : PX) (J : JS) (M : Mod), k <= os.length /\ iv = .int .i64 k /\ Twin w wr 60 x' y' J J k k M M /\ x'.gq = x.gq /\ y'.gq = y.gq /\ x'.g = g1 /\ y'.g = g2) (fun iv _ => os.length - (intS iv).toNat)
 case atStart => exact ⟨0, _, _, _, _, by omega, rfl, HTW.out, rfl, rfl, HG.out.1, HG.out.2⟩
 case round =>
  obtain ⟨k, x', y', J, M, hk, rfl, htw, hxq, hyq, hxg, hyg⟩ := hrel
  obtain ⟨wq, hwq⟩ := kX wr
  subst hwq
  have hwk := wK k (by omega)
  have hbel := htw.p.bel
  by_cases hlt : k < os.length
  ·obtain ⟨o, ho⟩ : ∃ o, os[k]? = some o := ⟨_, List.getElem?_eq_getElem hlt⟩
   have hmem := mem_of_getElem? ho
   have hpb := HSM.out o hmem
   have hok0 := HR.out.ok o hmem
   obtain ⟨ad, rfl, hl, hc⟩ := (HR.out.since hbel).get ho
   have hk25 : k < 25 := by omega
   obtain ⟨cs0, hcs0⟩ : ∃ cs0 : Array Value, cs0 = #[.int .i64 o.kd, .int .i64 o.n, .string (strOf o.nm), .slice o.A o.l.length o.c, .slice o.K o.kn o.kc] := ⟨_, rfl⟩
   have hba : Below wq.heap.size wq (wq.alloc (.cells cs0 41)) := (kB _ _).alloc (kR _) _
   have hsza := hba.size
   have HB0 := kH (kW wq 41 cs0)
   have hlt0 := htw.p.lt
   have hlt1 := htw.q.lt
   have HT0 := kH (htw.below hba)
   have HLT := kH (kA hlt0 hlt1)
   have HG0 := kH (kA hxq (kA hyq (kA hxg hyg)))
   have HOK := kH (kA hok0 (kA hpb ho))
   have hss := x2L o.nm
   subst hcs0
   clear htw hbel hba hlt0 hlt1 hxq hyq hxg hyg hok0 hpb ho hmem
   by_cases hkd : o.kd = 2
   ·have hd : decide (o.kd = 2) = true := decide_eq_true hkd
    go_upto_region 17 with (have _h := hc; refine x1B rfl (.tmp 54) rfl _ rfl o hc ?_; clear _h hc)
    rw [hkd] at HB0 HT0
    generalize hwa : wq.alloc (.cells #[.int .i64 2, .int .i64 o.n, .string (strOf o.nm), .slice o.A o.l.length o.c, .slice o.K o.kn o.kc] 41) = wa at *
    have hS0 : Blk wa.drew wq.heap.size 41 #[.int .i64 2, .int .i64 o.n, .string (strOf o.nm), .slice o.A o.l.length o.c, .slice o.K o.kn o.kc] := HB0.out.drew
    have htd := HT0.out.below (x08 (kB _ _) 1)
    have HTD := kH htd
    clear HT0 HB0 htd hwa hd
    refine x09 (fun w' => Blk w' wq.heap.size 41 #[.int .i64 2, .int .i64 o.n, .string (strOf o.nm), .slice o.A o.l.length o.c, .slice o.K o.kn o.kc]) 99 (by kernel_rfl) ?_
    refine tV 0 (.pointer (some ⟨x.gq, 0, none⟩)) rfl (fun w hw => by kernel_rfl) hS0 ?_
    refine tV 1 (.pointer (some ⟨wq.heap.size, 1, none⟩)) rfl (fun w hw => by go_simp) hS0 ?_
    refine tV 2 (.int .i64 o.n) rfl (fun w hw => by have q : w.cell? ⟨wq.heap.size, 1, none⟩ = some (.int .i64 o.n) := hw.cell 1; go_simp) hS0 ?_
    refine tV 5 (.pointer (some ⟨y.gq, 0, none⟩)) rfl (fun w hw => by kernel_rfl) hS0 ?_
    refine tV 6 (.pointer (some ⟨wq.heap.size, 1, none⟩)) rfl (fun w hw => by go_simp) hS0 ?_
    refine tV 7 (.int .i64 o.n) rfl (fun w hw => by have q : w.cell? ⟨wq.heap.size, 1, none⟩ = some (.int .i64 o.n) := hw.cell 1; go_simp) hS0 ?_
    have hblk := x9K HTD.out.p HT.out hpos (by omega) o.n
    rw [HG0.out.1] at hblk
    refine tO 3 ?_
    refine x03 (by kernel_rfl) hblk ?_
    rintro e w7 ⟨x1, J1, M1, k1, hp1, rfl, hP1, hq1, hg1, ho1, hf1, hz1⟩
    have ht2 := HTD.out.step hP1 ho1 hf1 hz1
    have hS1 : Blk w7 wq.heap.size 41 #[.int .i64 2, .int .i64 o.n, .string (strOf o.nm), .slice o.A o.l.length o.c, .slice o.K o.kn o.kc] := hS0.of (ho1.block _ hS0.lt (fun hm => by have := HLT.out.1 _ hm; omega))
    obtain ⟨y1, hy1⟩ := kX ({y' with Z := pfoot x1 M1 ++ y'.Z})
    rw [<- hy1] at ht2
    have hyq1 : y1.gq = y.gq := by rw [hy1]; exact HG0.out.2.1
    have hyg1 : y1.g = g2 := by rw [hy1]; exact HG0.out.2.2.2
    have hfy : ∀ M, pfoot y1 M = pfoot y' M := fun M => by rw [hy1]; rfl
    clear hblk hy1 hS0
    refine ⟨_, rfl, hS1, ?_⟩
    simp only [nH, pu, nB, nC, nD]
    refine tO 4 ?_
    refine x03 (by kernel_rfl) (x84 k1 w7) ?_
    rintro e w8 ⟨rfl, hw8⟩
    subst hw8
    refine ⟨_, rfl, hS1, ?_⟩
    simp only [nH, pu, nB, nC, nD]
    have hblk2 := x9K ht2.q HT.out hpos (by omega) o.n
    rw [hyq1] at hblk2
    refine tO 8 ?_
    refine x03 (by kernel_rfl) hblk2 ?_
    rintro e w9 ⟨y2, J2, M2, k2, hp2, rfl, hP2, hq2, hg2, ho2, hf2, hz2⟩
    obtain ⟨rfl, rfl, rfl⟩ := hp1.one hp2
    have ht3 := (ht2.symm.step hP2 ho2 hf2 hz2).symm
    have hS2 : Blk w9 wq.heap.size 41 #[.int .i64 2, .int .i64 o.n, .string (strOf o.nm), .slice o.A o.l.length o.c, .slice o.K o.kn o.kc] := hS1.of (ho2.block _ hS1.lt (fun hm => by rw [hfy] at hm; have := HLT.out.2 _ hm; omega))
    refine ⟨_, rfl, hS2, ?_⟩
    simp only [nH, pu, nB, nC, nD]
    refine tO 9 ?_
    refine x03 (by kernel_rfl) (x84 k1 w9) ?_
    rintro e w8 ⟨rfl, hw8⟩
    subst hw8
    refine ⟨_, rfl, hS2, ?_⟩
    simp only [nH, pu, nB, nC, nD]
    refine tO 10 ?_
    refine x0A (v := .bool false) (w' := w9) (by go_simp) ⟨hS2, ?_⟩
    simp only [nH, pu, nB, nC, nD]
    refine tE ?_
    have HFIN := kH (kA ht3 (kA hq1 (kA hq2 (kA hg1 (kA hg2 hyg1)))))
    clear hS1 hS2 ht2 ht3 hP1 hP2 ho1 ho2 hf1 hf2 hz1 hz2 hp1 hp2 hq1 hq2 hg1 hg2 hyg1 hyq1 hfy hblk2
    go_wp2
    go_roundw
    case rel => exact ⟨k + 1, _, _, J1, M1, by omega, by go_num, HFIN.out.1, HFIN.out.2.1, HFIN.out.2.2.1, HFIN.out.2.2.2.1.trans HG0.out.2.2.1, HFIN.out.2.2.2.2.1.trans HFIN.out.2.2.2.2.2⟩
    case measure => simp [intS]; omega
   ·have hd : decide (o.kd = 2) = false := decide_eq_false hkd
    have HD0 := kH (x7Y HT0.out.p HT.out hpos (by omega) o.nm HOK.out.1.nm (by have := HOK.out.2.1.2.1; omega) ((HOK.out.1.since HT0.out.p.bel).steps.tame HOK.out.2.1.2.2) (kR _) HOK.out.1.cap (by have := HOK.out.2.1.1; omega) (xIM HOK.out.2.1.2.1 HOK.out.2.1.1 HOK.out.2.1.2.2))
    rw [HG0.out.1] at HD0
    go_wp2_with (have _h := hc; refine x1B rfl (.tmp 54) rfl _ rfl o hc ?_; clear _h hc)
    refine HD0.out.mono ?_
    rintro e w7 ⟨x1, J1, M1, k1, v1, told1, hp1, rfl, hP1, hq1, hg1, ht1, ho1, hf1, hz1⟩
    have htw1 := HT0.out.step hP1 ho1 hf1 hz1
    obtain ⟨y1, hy1⟩ := kX ({y' with Z := pfoot x1 M1 ++ y'.Z})
    rw [<- hy1] at htw1
    have hyq1 : y1.gq = y.gq := by rw [hy1]; exact HG0.out.2.1
    have hyg1 : y1.g = g2 := by rw [hy1]; exact HG0.out.2.2.2
    have HD1 := kH (x7Y htw1.q HT.out hpos (by omega) o.nm HOK.out.1.nm (by have := HOK.out.2.1.2.1; omega) ((HOK.out.1.since htw1.q.bel).steps.tame HOK.out.2.1.2.2) (kR _) HOK.out.1.cap (by have := HOK.out.2.1.1; omega) (xIM HOK.out.2.1.2.1 HOK.out.2.1.1 HOK.out.2.1.2.2))
    rw [hyq1] at HD1
    obtain ⟨T1, c1, rfl⟩ : ∃ T ct, v1 = .slice T told1.length ct := by obtain ⟨T, ct, tv, e, _⟩ := ht1; exact ⟨T, ct, e⟩
    have hwl : ∀ z ∈ pfoot y1 M, z < (wq.alloc (.cells #[.int .i64 o.kd, .int .i64 o.n, .string (strOf o.nm), .slice o.A o.l.length o.c, .slice o.K o.kn o.kc] 41)).heap.size := fun z hz => kL (HLT.out.2 z (by rw [hy1] at hz; exact hz)) hsza
    have hB7 : Blk w7 wq.heap.size 41 #[.int .i64 o.kd, .int .i64 o.n, .string (strOf o.nm), .slice o.A o.l.length o.c, .slice o.K o.kn o.kc] := HB0.out.of (ho1.block _ HB0.out.lt (fun hm => by have := HLT.out.1 _ hm; omega))
    have q2 : w7.cell? ⟨wq.heap.size, 2, none⟩ = some (.string (strOf o.nm)) := hB7.cell 2
    have q3 : w7.cell? ⟨wq.heap.size, 3, none⟩ = some (.slice o.A o.l.length o.c) := hB7.cell 3
    clear hB7 HB0
    generalize wq.alloc (.cells #[.int .i64 o.kd, .int .i64 o.n, .string (strOf o.nm), .slice o.A o.l.length o.c, .slice o.K o.kn o.kc] 41) = wa at *
    have H7 := kH (kA htw1 (kA hp1 (kA hq1 (kA hg1 (kA ht1 (kA hyg1 (kA hwl hyq1)))))))
    clear htw1 hp1 hq1 hg1 ht1 hyg1 hwl hP1 ho1 hf1 hz1 hy1 hyq1 HD0 hd
    generalize hev : errV k1 = ev
    have HEV := kH hev
    clear hev
    go_wp2_with fail
    refine HD1.out.mono ?_
    rintro e w8 ⟨y2, J2, M2, k2, v2, told2, hp2, rfl, hP2, hq2, hg2, ht2, ho2, hf2, hz2⟩
    clear q2 q3
    obtain ⟨rfl, rfl, rfl, rfl⟩ := H7.out.2.1.one hp2
    have htw2 := (H7.out.1.symm.step hP2 ho2 hf2 hz2).symm
    obtain ⟨T2, c2, rfl⟩ : ∃ T ct, v2 = .slice T told1.length ct := by obtain ⟨T, ct, tv, e, _⟩ := ht2; exact ⟨T, ct, e⟩
    have hlq := H7.out.1.q.lt
    have ht1' := H7.out.2.2.2.2.1.past ho2 (fun z hz => by
     exact .inl (H7.out.2.2.2.2.2.2.1 z hz))
    have htl := hp2.told_le
    rw [length_map] at htl
    have HRW := kH (xKT ht1' ht2 (by have := HOK.out.2.1.1; omega))
    have H8 := kH (kA htw2 (kA hq2 hg2))
    clear hp2 hP2 hq2 hg2 ht2 ho2 hf2 hz2 htw2 hlq ht1' htl HD1
    rw [HEV.out]
    go_wp2_with fail
    rw [<- HEV.out]
    refine (x84 k1 w8).mono ?_
    rintro e w9 ⟨rfl, hw9⟩
    subst hw9
    rw [HEV.out]
    go_wp2_with fail
    rw [<- HEV.out]
    refine (x84 k1 w8).mono ?_
    rintro e w9 ⟨rfl, hw9⟩
    subst hw9
    rw [HEV.out]
    go_wp2_with fail
    refine HRW.out.mono ?_
    rintro e w9 ⟨rfl, hb9⟩
    have HFIN := kH (H8.out.1.below hb9)
    clear hb9 HRW
    go_wp2
    go_roundw
    case rel => exact ⟨k + 1, _, _, J1, M1, by omega, by go_num, HFIN.out, H7.out.2.2.1.trans HG0.out.1, H8.out.2.1.trans H7.out.2.2.2.2.2.2.2, H7.out.2.2.2.1.trans HG0.out.2.2.1, H8.out.2.2.trans H7.out.2.2.2.2.2.1⟩
    case measure => simp [intS]; omega
  ·obtain rfl : k = os.length := by omega
   have hh1 := htw.p.hold
   rw [hxg] at hh1
   have HH1 := kH hh1
   have HTF := kH htw
   have HGF := kH (kA hxq (kA hyq (kA hxg hyg)))
   have hln : (DM.up J.b 60 J.f J.s J.l).n = 60 := rfl
   clear htw hxq hyq hxg hyg hh1 hbel
   go_wp2_with fail
   refine (x4J HH1.out).mono ?_
   rintro e w' ⟨rfl, hw'⟩
   subst hw'
   rw [hln]
   clear HH1 hln
   go_wp2
   go_loopw [102] (fun iv wr => ∃ i : Nat, i <= 60 /\ iv = .int .i64 i /\ Twin w wr 60 x' y' J J os.length os.length M M) (fun iv _ => 60 - (intS iv).toNat)
   case atStart => exact ⟨0, by omega, rfl, HTF.out⟩
   case round =>
    obtain ⟨i, hi, rfl, htw⟩ := hrel
    have hwi := wK i (by omega)
    have hh1 := htw.p.hold
    have hh2 := htw.q.hold
    rw [HGF.out.2.2.1] at hh1
    rw [HGF.out.2.2.2] at hh2
    by_cases hlt : i < 60
    ·have hd : decide ((i : Int) < ((60 : Nat) : Int)) = true := decide_eq_true (by omega)
     obtain ⟨s, hs⟩ : ∃ s, (DM.up J.b 60 J.f J.s J.l).sure (i : Int) = s := ⟨_, rfl⟩
     have HS1 := kH (xBT hh1 (i : Int))
     have HH := kH (kA hh2 htw)
     rw [hs] at HS1
     clear htw hh1 hh2
     go_wp2_with fail
     refine HS1.out.mono ?_
     rintro e w7 ⟨rfl, hb7⟩
     have HS2 := kH (xBT (HH.out.1.below hb7) (i : Int))
     rw [hs] at HS2
     have HB7 := kH hb7
     clear hb7 HS1 hs
     go_wp2_with fail
     refine HS2.out.mono ?_
     rintro e w8 ⟨rfl, hb8⟩
     have HT8 := kH ((HH.out.2.below HB7.out).below hb8)
     clear hb8 HB7 HS2 HH
     simp only [Sec.v]
     go_wp2_with (refine xB0 rfl (.tmp 107) (.tmp 110) rfl s rfl rfl ?_)
     go_roundw
     case rel => exact ⟨i + 1, by omega, by go_num, HT8.out⟩
     case measure => simp [intS]; omega
    ·obtain rfl : i = 60 := by omega
     have HS1 := kH (x3T hh1)
     have HS2 := kH (x3T hh2)
     have hg1 := xCQ htw.p
     have hg2 := xCQ htw.q
     rw [HGF.out.1] at hg1
     rw [HGF.out.2.1] at hg2
     have HG1 := kH hg1
     have HG2 := kH hg2
     have HBF := kH htw.p.bel
     clear htw hh1 hh2 hg1 hg2
     generalize hst : (DM.up J.b 60 J.f J.s J.l).steps = st at *
     clear hst
     go_wp2_with fail
     refine HS1.out.mono ?_
     rintro e w7 ⟨rfl, hw7⟩
     subst hw7
     go_wp2_with fail
     refine HS2.out.mono ?_
     rintro e w7 ⟨rfl, hw7⟩
     subst hw7
     go_wp2_with fail
     refine HG1.out.mono ?_
     rintro e w7 ⟨rfl, hw7⟩
     subst hw7
     go_wp2_with fail
     refine HG2.out.mono ?_
     rintro e w7 ⟨rfl, hw7⟩
     subst hw7
     go_wp2
     go_ret
     exact ⟨by simp, HBF.out⟩
section
open Go.ChangeShapes Go.WideShapes Go.ChangeAt Go.RowKit Go.Deep
instance : Inhabited SV := ⟨⟨⟨0, 0, 0, [], []⟩, none, 0⟩⟩
instance : Inhabited PV := ⟨⟨0, 0, [], none, 0, [], none, 0, 0⟩⟩
section
variable {H : Type} {enc : TypeId × Value -> H} {P : Program} {w : World} {base : Nat} {spare : Nat -> Bool} {held : Bool}
theorem x3Q {t e : TypeId} {fs : Array Field} {fuel : Nat} {cs : List Value} {x : DataW H × List MemPlace} (ht : P.underlying t = some (.slice e)) (he : P.underlying e = some (.struct fs))
 (hone : oneCellFields P fs = true) (hC : P.cellsOf e = fs.size) (h : DataW.trod enc P w base spare held fuel t cs = some x) :
  (cs = [.slice none 0 0] /\ x = (.nil, [])) ∨
  ∃ (a : Addr) (len cap m : Nat) (D : Nat -> DataW H) (Pl : Nat -> List MemPlace), cs = [.slice (some a) len cap] /\ base <= a.block /\ len <= cap /\ cap <= maxLen /\ m = (if spare a.block then cap else len) ∧
   x = (.slice ((List.range len).map D) ((List.range (m - len)).map fun j => D (len + j)), MemPlace.row a (m * fs.size) ++ (List.range m).flatMap Pl) ∧
   ∀ i, i < m -> ∃ (ys : List (DataW H × List MemPlace)) (n : Nat), D i = .agg (ys.map (·.1)) /\ Pl i = ys.flatMap (·.2) /\ ys.length = fs.size ∧
    ∀ (j : Nat) (f : Field), fs[j]? = some f -> ∃ (v : Value) (y : DataW H × List MemPlace), w.cell? (a.add (i * fs.size + j)) = some v /\ ys[j]? = some y /\ DataW.trod enc P w base spare held n f.type [v] = some y := by
 rcases open_slice ht h with h0 | ⟨a, len, cap, m, n, D, Pl, hcs, hb, hl, hm, hmm, hx, hi⟩
 ·exact .inl h0
 ·refine .inr ⟨a, len, cap, m, D, Pl, hcs, hb, hl, hm, hmm, by rw [hC] at hx; exact hx, fun i him => ?_⟩
  obtain ⟨cs', hc, ht'⟩ := hi i him
  rw [hC] at hc
  obtain ⟨ys, n', hn', hy, hlen, hyl, hf⟩ := DataW.trod_struct he ht'
  obtain ⟨_, hcl, hat⟩ := World.cells?_some hc
  simp only [Prod.mk.injEq] at hy
  refine ⟨ys, n', hy.1, hy.2, hyl, fun j f hj => ?_⟩
  obtain ⟨ho, hk⟩ := hone_of hone j f hj
  have hjl : j < fs.size := (Array.getElem?_eq_some_iff.1 hj).1
  have hcell := hat j hjl
  have hv : cs'[j]? = some (cs'[j]'(by omega)) := List.getElem?_eq_getElem (by omega)
  have h1 := hf j f hj
  rw [ho, hk] at h1
  have hone' : (cs'.drop j).take 1 = [cs'[j]'(by omega)] := by
   rw [drop_eq_getElem_cons (by omega)]
   rfl
  rw [hone'] at h1
  have hys : ys[j]? = some (ys[j]'(by omega)) := List.getElem?_eq_getElem (by omega)
  refine ⟨_, _, ?_, hys, h1.trans hys⟩
  rw [<- Go.Deep.add_add, hcell, hv]
end
theorem x48 {p : Addr} {v : Value} (h : w.cell? p = some v) : p.block < w.heap.size := World.block_lt_of_cell? w p h
theorem x8L {α : Type} [Inhabited α] {P : Nat -> α -> Prop} (h : ∀ i, i < n -> ∃ x, P i x) : ∃ f : Nat -> α, ∀ i, i < n -> P i (f i) :=
  ⟨fun i => if hi : i < n then (h i hi).choose else default, fun i hi => by simp only [hi, dif_pos]; exact (h i hi).choose_spec⟩
theorem x71 {α β : Type} {f : α -> List β} {size : Nat} (hf : ∀ x, (f x).length = size) : ∀ l : List α, (l.flatMap f).length = l.length * size
 | [] => by simp
 | x :: l => by rw [flatMap_cons, kN, hf, x71 hf l, length_cons, Nat.add_mul]; omega
theorem xE6 (s : ByteArray) : s = strOf (s.data.toList.map UInt8.toNat) := by
 apply ByteArray.ext
 apply Array.toList_inj.1
 rw [x50, map_map]
 conv => lhs; rw [<- map_id s.data.toList]
 apply map_congr_left
 intro b _
 simp
theorem xB4 (s : ByteArray) : Small (s.data.toList.map UInt8.toNat) := fun b hb => by
 obtain ⟨u, _, rfl⟩ := List.mem_map.1 hb
 exact u.toNat_lt
theorem xM3 (zs : List Int) (i : Nat) (h : i < zs.length) (h0 : ∀ z ∈ zs, 0 <= z /\ z <= 255) : ((((zs.map Int.toNat)[i]?).getD 0 : Nat) : Int) = zs.getD i 0 := by
 have := h0 _ (List.getElem_mem h)
 simp [h]
 omega
theorem xFH {a : Addr} {len cap : Nat} {zs : List Int} (hl : len <= cap) (hz : zs.length = cap) (hcell : ∀ i, i < cap -> W.cell? (a.add i) = some (.int .u8 (zs.getD i 0)))
 (hw : ∀ n ∈ zs, (Lit.int .u8 n).wf = true) : Bytes W W.heap.size (some a) len ((zs.map Int.toNat).take len) := by
  have hb : ∀ z ∈ zs, 0 <= z /\ z <= 255 := fun z hz' => by
    have := hw z hz'
    simp [Lit.wf, IntKind.min, IntKind.max, IntKind.bits, IntKind.signed] at this
    omega
  refine ⟨⟨by simp [u8s]; omega, fun hn => ⟨a, rfl, ?_, fun j u hu => ?_⟩⟩, ?_⟩
  · have := x48 (hcell 0 (by omega))
    rwa [x0K] at this
  · have hj : j < len := by
      rcases Nat.lt_or_ge j len with h | h
      · exact h
      · rw [List.getElem?_eq_none (by simp [u8s]; omega)] at hu
        cases hu
    rw [hcell j (by omega), <- hu]
    have := xM3 zs j (by omega) hb
    simp [u8s, u8, hj, show j < zs.length by omega] at this ⊢
    omega
  · intro b hb'
    obtain ⟨z, hz', rfl⟩ := List.mem_map.1 (mem_of_mem_take hb')
    have := hb z hz'
    omega
theorem xJB {H : Type} {enc : TypeId × Value -> H} {v : Value} {y : DataW H × List MemPlace} (h : DataW.trod enc prog W 0 (fun _ => true) true n 35 [v] = some y) :
  ∃ (A : OA) (m c : Nat) (l : LN), v = .slice A m c /\ (m <= c /\ c <= 9223372036854775807) /\ Bytes W W.heap.size A m l := by
 rcases open_ints underlying35 underlying5 (by kernel_rfl) h with ⟨hcs, _⟩ | ⟨x, l, c, zs, hcs, _, hl, hm, hz, _, hcell, hwz⟩
 ·exact ⟨none, 0, 0, [], by simpa using hcs, ⟨by omega, by omega⟩, Reads.none_, by simp⟩
 ·simp only [List.cons.injEq, and_true] at hcs
  simp only [if_true] at hz
  unfold maxLen at hm
  exact ⟨_, _, _, _, hcs, ⟨by omega, by omega⟩, xFH hl hz (fun i hi => hcell i (by omega)) hwz⟩
theorem xNY {H : Type} {enc : TypeId × Value -> H} {v : Value} {y : DataW H × List MemPlace} (h : DataW.trod enc prog W 0 (fun _ => true) true n 39 [v] = some y) :
    ∃ (A : OA) (c : Nat) (l : List SV), v = .slice A l.length c /\ (l.length <= c /\ c <= 9223372036854775807) /\ StepsW W A l := by
  rcases x3Q underlying39 underlying52 (by kernel_rfl) (by kernel_rfl) h with ⟨hcs, _⟩ | ⟨a, len, cap, m, D, Pl, hcs, _, hl, hm, hmm, _, hr⟩
  · simp only [List.cons.injEq, and_true] at hcs
    subst hcs
    exact ⟨none, 0, [], rfl, ⟨by simp, by omega⟩, ⟨Reads.none_, fun s hs => by cases hs⟩⟩
  · simp only [List.cons.injEq, and_true] at hcs
    subst hcs
    simp only [if_true] at hmm
    unfold maxLen at hm
    have hex : ∀ i, i < len -> ∃ s : SV, (∀ j v, s.cs[j]? = some v -> W.cell? (a.add (i * 5 + j)) = some v) /\ SRaw W s := by
      intro i hi
      obtain ⟨ys, n', _, _, _, h3⟩ := hr i (by omega)
      obtain ⟨v0, y0, c0, _, t0⟩ := h3 0 _ rfl
      obtain ⟨v1, y1, c1, _, t1⟩ := h3 1 _ rfl
      obtain ⟨v2, y2, c2, _, t2⟩ := h3 2 _ rfl
      obtain ⟨v3, y3, c3, _, t3⟩ := h3 3 _ rfl
      obtain ⟨v4, y4, c4, _, t4⟩ := h3 4 _ rfl
      obtain ⟨n0, e0, _, w0⟩ := DataW.trod_int underlying3 t0
      obtain ⟨n1, e1, _, w1⟩ := DataW.trod_int underlying3 t1
      obtain ⟨n2, e2, _, w2⟩ := DataW.trod_int underlying3 t2
      obtain ⟨s3, e3, _, w3⟩ := DataW.trod_string underlying9 t3
      obtain ⟨A4, m4, c4', l4, rfl, hc4, hb4⟩ := xJB t4
      simp only [List.cons.injEq, and_true] at e0 e1 e2 e3
      subst e0 e1 e2 e3
      simp [Lit.wf, IntKind.min, IntKind.max, IntKind.bits, IntKind.signed] at w0 w1 w2
      have hl4 := hb4.len
      subst hl4
      refine ⟨⟨⟨n0, n1, n2, s3.data.toList.map UInt8.toNat, l4⟩, A4, c4'⟩, fun j v hj => ?_, ⟨hb4, xB4 s3, by simp only; omega, by simp only; omega, by simp only; omega, by simp only; omega, ?_, by simp only; omega⟩⟩
      · match j, hj with
        | 0, hj => simp [SV.cs] at hj; subst hj; exact c0
        | 1, hj => simp [SV.cs] at hj; subst hj; exact c1
        | 2, hj => simp [SV.cs] at hj; subst hj; exact c2
        | 3, hj =>
          have hq := xE6 s3
          simp only [SV.cs, List.getElem?_cons_succ, List.getElem?_cons_zero] at hj
          injection hj with hj
          subst hj
          rw [<- hq]
          exact c3
        | 4, hj => simp [SV.cs] at hj; subst hj; exact c4
      · have hsz : s3.size <= maxLen := w3
        simp only [length_map]
        have : s3.data.toList.length = s3.size := by rw [Array.length_toList]; rfl
        unfold maxLen at hsz
        omega
    obtain ⟨f, hf⟩ := x8L hex
    have hat : ∀ k, k < len -> ((List.range len).map f)[k]? = some (f k) := fun k hk => by rw [List.getElem?_map, List.getElem?_range hk]; rfl
    have hfl : (((List.range len).map f).flatMap SV.cs).length = len * 5 := by
      rw [x71 SV.cs_len]
      simp
    refine ⟨some a, cap, (List.range len).map f, by simp, ⟨by simpa using hl, by omega⟩, ⟨⟨by simpa using hfl, fun hn => ⟨a, rfl, ?_, fun j u hu => ?_⟩⟩, fun s hs => ?_⟩⟩
    · have := x48 ((hf 0 (by simpa using hn)).1 0 _ rfl)
      rwa [x0K] at this
    · have hj : j < len * 5 := by
        rcases Nat.lt_or_ge j (len * 5) with h | h
        · exact h
        · rw [List.getElem?_eq_none (by rw [hfl]; exact h)] at hu; cases hu
      have hk : j / 5 < len := by omega
      have h5 := x1K SV.cs 5 SV.cs_len _ (j / 5) (j % 5) (f (j / 5)) (hat (j / 5) hk) (by omega)
      rw [show j / 5 * 5 + j % 5 = j by omega, hu] at h5
      have := (hf (j / 5) hk).1 (j % 5) u h5.symm
      rwa [show j / 5 * 5 + j % 5 = j by omega] at this
    · obtain ⟨i, hi, rfl⟩ := List.mem_map.1 hs
      exact (hf i (mem_range.1 hi)).2
theorem xIQ {H : Type} {enc : TypeId × Value -> H} {v : Value} {y : DataW H × List MemPlace} (h : DataW.trod enc prog W 0 (fun _ => true) true n 23 [v] = some y) :
  ∃ (A : OA) (m c : Nat), v = .slice A m c /\ m <= 9223372036854775807 := by
 rcases open_bools underlying23 underlying4 (by kernel_rfl) h with ⟨hcs, _⟩ | ⟨a, len, cap, f, hcs, _, hl, hm, _, hcell⟩
 ·exact ⟨none, 0, 0, by simpa using hcs, by omega⟩
 ·simp only [List.cons.injEq, and_true] at hcs
  unfold maxLen at hm
  exact ⟨some a, len, cap, by simpa using hcs, by omega⟩
theorem xQ0 {H : Type} {enc : TypeId × Value -> H} {v : Value} {y : DataW H × List MemPlace} (h : DataW.trod enc prog W 0 (fun _ => true) true n 22 [v] = some y) :
    ∃ (A : OA) (c : Nat) (l : List PV), v = .slice A l.length c /\ (l.length <= c /\ c <= 9223372036854775807) /\ PVs W A l := by
  rcases x3Q underlying22 underlying41 (by kernel_rfl) (by kernel_rfl) h with ⟨hcs, _⟩ | ⟨a, len, cap, m, D, Pl, hcs, _, hl, hm, hmm, _, hr⟩
  · simp only [List.cons.injEq, and_true] at hcs
    subst hcs
    exact ⟨none, 0, [], rfl, ⟨by simp, by omega⟩, ⟨Reads.none_, fun s hs => by cases hs⟩⟩
  · simp only [List.cons.injEq, and_true] at hcs
    subst hcs
    simp only [if_true] at hmm
    unfold maxLen at hm
    have hex : ∀ i, i < len -> ∃ s : PV, (∀ j v, s.cs[j]? = some v -> W.cell? (a.add (i * 5 + j)) = some v) /\ s.Ok W := by
      intro i hi
      obtain ⟨ys, n', _, _, _, h3⟩ := hr i (by omega)
      obtain ⟨v0, y0, c0, _, t0⟩ := h3 0 _ rfl
      obtain ⟨v1, y1, c1, _, t1⟩ := h3 1 _ rfl
      obtain ⟨v2, y2, c2, _, t2⟩ := h3 2 _ rfl
      obtain ⟨v3, y3, c3, _, t3⟩ := h3 3 _ rfl
      obtain ⟨v4, y4, c4, _, t4⟩ := h3 4 _ rfl
      obtain ⟨n0, e0, _, w0⟩ := DataW.trod_int underlying3 t0
      obtain ⟨n1, e1, _, w1⟩ := DataW.trod_int underlying3 t1
      obtain ⟨s0, e2, _, w2⟩ := DataW.trod_string underlying9 t2
      obtain ⟨A1, c1', l1, rfl, hc1, hw1⟩ := xNY t3
      obtain ⟨K1, kn1, kc1, rfl, hk1⟩ := xIQ t4
      simp only [List.cons.injEq, and_true] at e0 e1 e2
      subst e0 e1 e2
      refine ⟨⟨n0, n1, s0.data.toList.map UInt8.toNat, A1, c1', l1, K1, kn1, kc1⟩, fun j v hj => ?_, ⟨hc1.1, hc1.2, hw1, xB4 s0, ?_, hk1⟩⟩
      · match j, hj with
        | 0, hj => simp [PV.cs] at hj; subst hj; exact c0
        | 1, hj => simp [PV.cs] at hj; subst hj; exact c1
        | 2, hj =>
          have hq := xE6 s0
          simp only [PV.cs, List.getElem?_cons_succ, List.getElem?_cons_zero] at hj
          injection hj with hj
          subst hj
          rw [<- hq]
          exact c2
        | 3, hj => simp [PV.cs] at hj; subst hj; exact c3
        | 4, hj => simp [PV.cs] at hj; subst hj; exact c4
      · have hsz : s0.size <= maxLen := w2
        simp only [length_map]
        have : s0.data.toList.length = s0.size := by rw [Array.length_toList]; rfl
        unfold maxLen at hsz
        omega
    obtain ⟨f, hf⟩ := x8L hex
    have hat : ∀ k, k < len -> ((List.range len).map f)[k]? = some (f k) := fun k hk => by rw [List.getElem?_map, List.getElem?_range hk]; rfl
    have hfl : (((List.range len).map f).flatMap PV.cs).length = len * 5 := by
      rw [x71 PV.cs_len]
      simp
    refine ⟨some a, cap, (List.range len).map f, by simp, ⟨by simpa using hl, by omega⟩, ⟨⟨by simpa using hfl, fun hn => ⟨a, rfl, ?_, fun j u hu => ?_⟩⟩, fun s hs => ?_⟩⟩
    · have := x48 ((hf 0 (by simpa using hn)).1 0 _ rfl)
      rwa [x0K] at this
    · have hj : j < len * 5 := by
        rcases Nat.lt_or_ge j (len * 5) with h | h
        · exact h
        · rw [List.getElem?_eq_none (by rw [hfl]; exact h)] at hu; cases hu
      have hk : j / 5 < len := by omega
      have h5 := x1K PV.cs 5 PV.cs_len _ (j / 5) (j % 5) (f (j / 5)) (hat (j / 5) hk) (by omega)
      rw [show j / 5 * 5 + j % 5 = j by omega, hu] at h5
      have := (hf (j / 5) hk).1 (j % 5) u h5.symm
      rwa [show j / 5 * 5 + j % 5 = j by omega] at this
    · obtain ⟨i, hi, rfl⟩ := List.mem_map.1 hs
      exact (hf i (mem_range.1 hi)).2
theorem open_pvs {H : Type} {enc : TypeId × Value -> H} {v : Value} {d : DataW H} {p : List MemPlace} (hval : Value.okWide prog W .any base 22 v)
 (h : DataW.Trod enc prog W 0 (fun _ => true) true 22 v d p) : ∃ (A : OA) (c : Nat) (l : List PV), v = .slice A l.length c /\ (l.length <= c /\ c <= 9223372036854775807) /\ PVs W A l := by
 obtain ⟨a0, len0, cap0, rfl⟩ := okWide_slice underlying22 hval
 obtain ⟨fuel, hf⟩ := h
 exact xQ0 hf
end
end Go.Proofs.YtpogpajjemaagaaGreatDoor
