/-
  An object as the document's: its own memory, but the row of clones. Conditions: the object reads as it is said to, and is small.
-/
import Derived.Test.YtjepfeagbiceoaaQy
namespace Go.Proofs.Ytjepfeagbiceoaa
open Go.RowKit Go.BigFrame
set_option linter.unusedSimpArgs false
set_option linter.unusedVariables false
set_option maxRecDepth 100000
def PlainTo (w : World) (o : OA) (e : Ending) (w' : World) : Prop := ∃ (C' : Option Addr) (c' : Nat), e = .returned (.agg (OA.cs {o with C := C', cc := c'})) ∧ OwnC 78 w' w.heap.size (.slice C' o.cl.length c') o.cl ∧ Below w.heap.size w w'
/-- what plain hands back reads as the object does -/
theorem PlainTo.reads {w w' : World} {o : OA} {C' : Option Addr} {c' : Nat} (h : o.R w) (hc : OwnC 78 w' w.heap.size (.slice C' o.cl.length c') o.cl) (hb : Below w.heap.size w w') : OA.R {o with C := C', cc := c'} w' := by
  obtain ⟨-, c1, c2, -⟩ := own_shape hc
  have h2 := h.since hb
  exact ⟨h2.dt, Reads.of_own hc, h2.cl, h2.q1, h2.q2, h2.d1, h2.c1, h2.d2, c1⟩
structure Pln (w : World) (o : OA) (g3 k : Nat) (C' : Option Addr) (c' : Nat) (wr : World) : Prop where
  blk : Blk wr g3 25 #[.bool o.th, .slice o.D o.dt.length o.cd, .int .i64 o.sq, .slice C' k c']
  res : Blk wr (w.heap.size + 1) 25 #[.bool false, .slice none 0 0, .int .i64 0, .slice none 0 0]
  row : OwnC 78 wr w.heap.size (.slice C' k c') (o.cl.take k)
  bel : Below w.heap.size w wr
  far : w.heap.size + 2 ≤ g3
set_option maxHeartbeats 8000000 in
theorem plain_any {w : World} (o : OA) (h : o.R w) (hS : o.Sm) : Calls Try.prog 18 #[.agg o.cs] w (PlainTo w o) := by
  have H := Lib.hid h
  have hcn := hS.cn
  obtain ⟨w0, hw0⟩ : ∃ w0, w0 = ((w.alloc (.cells o.cs 36)).alloc (.cells #[.bool false, .slice none 0 0, .int .i64 0, .slice none 0 0] 25)).alloc (.cells #[.bool o.th, .slice o.D o.dt.length o.cd, .int .i64 o.sq, .slice none 0 0] 25) := ⟨_, rfl⟩
  have hbel : Below w.heap.size w w0 := by rw [hw0]; exact (((Below.refl _ w).alloc (Nat.le_refl _) _).alloc (by simp) _).alloc (by simp; omega) _
  have b0 : Blk w0 w.heap.size 36 o.cs := by rw [hw0]; exact ((Blk.new w _ _).alloc _).alloc _
  have b1 : Blk w0 (w.heap.size + 1) 25 #[.bool false, .slice none 0 0, .int .i64 0, .slice none 0 0] := by
    have := (Blk.new (w.alloc (.cells o.cs 36)) 25 #[.bool false, .slice none 0 0, .int .i64 0, .slice none 0 0]).alloc (.cells #[.bool o.th, .slice o.D o.dt.length o.cd, .int .i64 o.sq, .slice none 0 0] 25)
    rw [hw0]
    simpa using this
  have b2 : Blk w0 (w.heap.size + 1 + 1) 25 #[.bool o.th, .slice o.D o.dt.length o.cd, .int .i64 o.sq, .slice none 0 0] := by
    have := Blk.new ((w.alloc (.cells o.cs 36)).alloc (.cells #[.bool false, .slice none 0 0, .int .i64 0, .slice none 0 0] 25)) 25 #[.bool o.th, .slice o.D o.dt.length o.cd, .int .i64 o.sq, .slice none 0 0]
    rw [hw0]
    simpa using this
  have HP0 : Hid (Pln w o (w.heap.size + 1 + 1) 0 none 0 w0) := Lib.hid ⟨b2, b1, OwnC.nil _ _ _, hbel, by omega⟩
  have cs3 : w0.cell? ⟨w.heap.size, 3, none⟩ = some (.slice o.C o.cl.length o.cc) := b0.cell 3
  have HWE := Lib.hid hw0
  unfold OA.cs at HWE
  have hcs : o.cs = #[.bool o.th, .slice o.D o.dt.length o.cd, .int .i64 o.sq, .slice o.C o.cl.length o.cc] := rfl
  rw [hcs]
  obtain ⟨g3, hg3⟩ : ∃ g3, g3 = w.heap.size + 1 + 1 := ⟨_, rfl⟩
  rw [← hg3] at HP0
  have HG3 := Lib.hid hg3
  clear h hS hw0 hbel b0 b1 b2 hcs hg3
  go_enter Try.func18, Try.ntmps18
  go_upto_region 2 with (fail)
  rw [← HWE.out, ← HG3.out]
  clear HWE
  go_wp2_with fail
  go_loopw [16] (fun i wr => ∃ (k : Nat) (C' : Option Addr) (c' : Nat), k ≤ o.cl.length ∧ i = .int .i64 k ∧ Pln w o g3 k C' c' wr) (fun i _ => o.cl.length - (intOf i).toNat)
  case atStart => exact ⟨0, _, _, by omega, rfl, HP0.out⟩
  case round =>
    obtain ⟨k, C', c', hk, rfl, hP⟩ := hrel
    obtain ⟨wo, hwo⟩ : ∃ wo, wo = wr := ⟨_, rfl⟩
    subst hwo
    have HP := Lib.hid hP
    have hwk : IntKind.i64.wrap ((k : Int) + 1) = (k : Int) + 1 := by rw [IntKind.wrap_i64]; omega
    by_cases hlt : k < o.cl.length
    · obtain ⟨c, hck⟩ : ∃ c, o.cl[k]? = some c := ⟨_, List.getElem?_eq_getElem hlt⟩
      have hR := H.out.since hP.bel
      obtain ⟨ad, had, hl, hc⟩ := hR.get hck
      obtain ⟨wA, hwA⟩ : ∃ wA, wA = wo.alloc (.cells #[.slice c.S c.sn.length c.cs, .slice c.D c.dt.length c.cd] 79) := ⟨_, rfl⟩
      have hbA : Below wo.heap.size wo wA := by rw [hwA]; exact below_alloc wo _
      obtain ⟨gx, hgx⟩ : ∃ gx, gx = wo.heap.size := ⟨_, rfl⟩
      have KX : Blk wA gx 79 #[.slice c.S c.sn.length c.cs, .slice c.D c.dt.length c.cd] := by rw [hwA, hgx]; exact Blk.new wo _ _
      have KG := hP.blk.of (hbA.block _ hP.blk.lt)
      have hrow1 : OwnC 78 wA w.heap.size (.slice C' k c') (o.cl.take k) := OwnC.below hP.row hbA
      have hrow2 : OwnC 78 (wA.alloc (.cells c.cells.toArray 78)) w.heap.size (.slice C' k c') (o.cl.take k) := World.ownsRow.alloc hrow1 _
      have hone := one_cl wA 78 c
      have hbs := build_rcl c wA
      have x0 : wA.cell? ⟨gx, 0, none⟩ = some (.slice c.S c.sn.length c.cs) := KX.cell 0
      have x1 : wA.cell? ⟨gx, 1, none⟩ = some (.slice c.D c.dt.length c.cd) := KX.cell 1
      have y3 : wA.cell? ⟨g3, 3, none⟩ = some (.slice C' k c') := KG.cell 3
      have HWA := Lib.hid (And.intro hwA hgx)
      have HA : Hid (Below w.heap.size w wA ∧ Blk wA (w.heap.size + 1) 25 #[.bool false, .slice none 0 0, .int .i64 0, .slice none 0 0]) := Lib.hid ⟨hP.bel.trans (hbA.mono hP.bel.size), hP.res.of (hbA.block _ hP.res.lt)⟩
      have HCK := Lib.hid hck
      have hlk : (o.cl.take k).length = k := by simp; omega
      have hwsz := HA.out.1.size
      generalize o.C = oC at *
      subst had
      clear hR hbA KX hwA hgx hck hP hrow1
      go_upto_region 5 with (have _h := hc; refine wpList_load_scl rfl (.tmp 18) rfl _ rfl c hc ?_; clear _h hc)
      rw [← HWA.out.1, ← HWA.out.2]
      clear HWA
      go_upto_region 6 with (first
        | (refine app_rcl (.tmp 21) (.tmp 27) rfl rfl w.heap.size (.slice C' k c') (o.cl.take k) rfl hrow2 _ (some ⟨wA.heap.size, 0, none⟩) 1 1 [c] rfl rfl hone (by omega) (by rw [World.size_alloc]; omega) ?_; intro v3 w3 h3 gr3 a3; obtain ⟨A4, c4, rfl⟩ := h3.form; rw [show (o.cl.take k ++ [c]).length = k + 1 by rw [List.length_append, hlk]; rfl]; have K3 : Blk w3 g3 25 #[.bool o.th, .slice o.D o.dt.length o.cd, .int .i64 o.sq, .slice C' k c'] := (KG.alloc _).grown gr3 (fun e => own_blk_ne hrow2 (KG.alloc _) (by decide) e.symm))
        | (refine wpList_setq rfl 23 (.tmp 29) (.tmp 28) rfl g3 3 25 _ (.slice A4 (k + 1) c4) rfl rfl K3 (by simp) (by kernel_rfl) rfl ?_; intro w4 K4 ho4 hs4))
      have HNEW : Hid (Pln w o g3 (k + 1) A4 c4 w4) := Lib.hid (by
        have e1 : (o.cl.take k ++ [c]).length = k + 1 := by simp; omega
        have e2 : o.cl.take (k + 1) = o.cl.take k ++ [c] := take_snocI HCK.out
        have h0 := HP.out.far
        have hr3 : Blk w3 (w.heap.size + 1) 25 #[.bool false, .slice none 0 0, .int .i64 0, .slice none 0 0] := (HA.out.2.alloc _).grown gr3 (fun e => own_blk_ne hrow2 (HA.out.2.alloc _) (by decide) e.symm)
        refine ⟨?_, hr3.only ho4 (fun hm => by simp at hm; omega), ?_, ?_, h0⟩
        · simpa using K4
        · rw [e2]
          rw [e1] at h3
          exact row_of h3 fun x hx => ho4.block x (row_under h3 x hx) (fun hm => by simp at hm; subst hm; obtain ⟨cs, hb⟩ := own_ty h3 hx; exact hb.ne_ K3 (by decide) rfl)
        · have hb3 : Below w.heap.size w w3 := (HA.out.1.alloc HA.out.1.size _).grown gr3 (by rw [World.size_alloc]; omega) (fun x e => row_over hrow2 x (mem_rowOf.2 e))
          exact hb3.trans (ho4.below (B := w.heap.size) (fun x hx => by simp at hx; omega) hb3.size))
      clear K4 ho4 hs4 K3 h3 gr3 a3 hrow2 hone hbs KG x0 x1 y3
      go_wp2
      go_roundw
      case rel => exact ⟨k + 1, _, _, by omega, by go_num, HNEW.out⟩
      case measure => simp [intOf]; omega
    · obtain rfl : k = o.cl.length := by omega
      have K1 := HP.out.blk
      have K2 := HP.out.res
      go_wp2_with (first
        | (have _h := K1; refine wpList_loadq rfl 25 (.tmp 3) rfl g3 [.bool o.th, .slice o.D o.dt.length o.cd, .int .i64 o.sq, .slice C' o.cl.length c'] _ rfl K1 Try.underlying25 rfl (by kernel_rfl) ?_; clear _h K1)
        | (have _h := K2; refine wpList_storeq rfl 25 (.tmp 2) (.tmp 31) rfl (w.heap.size + 1) #[.bool false, .slice none 0 0, .int .i64 0, .slice none 0 0] [.bool o.th, .slice o.D o.dt.length o.cd, .int .i64 o.sq, .slice C' o.cl.length c'] rfl rfl K2 rfl (by kernel_rfl) (OA.cs_one {o with C := C', cc := c'}) ?_; clear _h K2; intro w9 K9 ho9 hs9))
      refine bodyPost_ret (results_cell_row rfl _ _ (w.heap.size + 1) 25 #[.bool o.th, .slice o.D o.dt.length o.cd, .int .i64 o.sq, .slice C' o.cl.length c'] (0, 0) _ rfl K9 Try.underlying25 rfl (by kernel_rfl)) rfl ?_
      have hrow := HP.out.row
      rw [List.take_of_length_le (Nat.le_refl _)] at hrow
      refine ⟨C', c', rfl, row_of hrow fun x hx => ho9.block x (row_under hrow x hx) (fun hm => by simp at hm; subst hm; obtain ⟨cs, hb⟩ := own_ty hrow hx; exact hb.ne_ HP.out.res (by decide) rfl), HP.out.bel.trans (ho9.below (B := w.heap.size) (fun x hx => by simp at hx; omega) HP.out.bel.size)⟩
end Go.Proofs.Ytjepfeagbiceoaa
