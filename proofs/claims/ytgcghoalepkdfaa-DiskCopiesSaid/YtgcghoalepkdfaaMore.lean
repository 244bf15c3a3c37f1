/-
  What the disk's New, Sure, Copy return. Conditions: the disk lies where it is said to.
-/
import Derived.Test.YtgcghoalepkdfaaRead
import Derived.Shelf.SlMaps.Clone
namespace Go.Proofs.Ytgcghoalepkdfaa
open Go.RowKit
set_option maxRecDepth 100000 in
theorem sure_any (w : World) (base g gm : Nat) (v : Value) (d : DM) (i : Int) (h : Lies w base g gm v d) :
    Calls Try.prog 22 #[.pointer (some ⟨g, 0, none⟩), .int .i64 i] w fun e w' => e = .returned (d.sure i).v ∧ Below w.heap.size w w' := by
  obtain ⟨Zs, hZ, hZs⟩ : ∃ Zs : Array Value, (∀ w, (zeroValue 47).run Try.prog w = .ok (.agg Zs) w) ∧ Zs.size = 128 := ⟨_, sec_zero, by simp [Sec.cs_len]⟩
  have h2 := h.alloc (.cells Zs 47)
  obtain ⟨-, -, -, -, -, k5, -, -⟩ := h2.cells
  obtain ⟨f0, hm0, hf0⟩ := h2.map
  have lk := run_lookup_map (P := Try.prog) Try.underlying62 Try.underlying3 sec_zero hm0 i
  rw [hf0] at lk
  unfold Sec.v at lk
  have hi : (Try.prog.info? 47).map (·.size) = some (d.sure i).cs.length := by rw [(d.sure i).cs_len]; exact sec_size
  have hl := (d.sure i).cs_len
  have ho := (d.sure i).one
  clear h h2 hm0 hf0
  go_enter Try.func22, Try.ntmps22
  go_wp2_with (at_lookup; refine wpList_lookup_map rfl 62 (.tmp 11) (.tmp 12) rfl i _ rfl rfl lk ?_; refine wpList_store_new rfl 47 (.tmp 4) (.tmp 13) (by rfl) (d.sure i).cs Zs (by rfl) (by rfl) hi (by rw [hZs, hl]) ho ?_)
  refine bodyPost_ret (results_cell_row rfl _ _ w.heap.size 47 (d.sure i).cs.toArray (0, 0) _ rfl (Blk.new w _ _) Try.underlying47 rfl (by rw [List.size_toArray]; exact hi)) rfl ?_
  exact ⟨rfl, (Below.refl _ _).alloc (Nat.le_refl _) _⟩
/-- New's answer -/
def MadeDisk (w : World) (base n : Nat) (e : Ending) (w' : World) : Prop := ∃ g F, e = .returned (.tuple #[.pointer (some ⟨g, 0, none⟩), .nilIface]) ∧ DiskAt w' base F g (DM.new n) ∧ Below w.heap.size w w' ∧ Over w.heap.size F
theorem new_good (w : World) (base n : Nat) (h0 : 1 ≤ n) (h1 : n ≤ 4096) (hB : base ≤ w.heap.size) :
    Calls Try.prog 11 #[.int .i64 n] w (MadeDisk w base n) := by
  have hmm := @run_makeMap Try.prog
  go_enter Try.func11, Try.ntmps11
  go_wp2
  go_ret2
  refine ⟨w.heap.size + 1, _, rfl, ⟨w.heap.size, .slice none 0 0, rfl, ⟨?_, ⟨fun _ => none, (MapAt.new w).of (Below.heap_alloc _ _ _ (by simp)), fun k => rfl⟩, World.ownsRow_nil _ _ _ _, by omega, hB⟩⟩, ((Below.refl _ _).alloc (Nat.le_refl _) _).alloc (by simp) _, ?_⟩
  · have := Blk.new (w.alloc (.map #[] 0)) 67 (dcells (DM.new n) w.heap.size (.slice none 0 0))
    rw [World.size_alloc] at this
    exact this
  · intro k hk
    simp [rowOf, Value.ownBlock] at hk
    omega
theorem new_bad (w : World) (n : Int) (h1 : n < 1 ∨ 4096 < n) :
    Calls Try.prog 11 #[.int .i64 n] w fun e w' => e = .returned (.tuple #[.pointer none, errV 1]) ∧ w = w' := by
  rcases h1 with h1 | h1
  · go_enter Try.func11, Try.ntmps11
    go_wp2
    go_ret2
    exact ⟨rfl, rfl⟩
  · have h2 : decide (n < 1) = false := by simp; omega
    go_enter Try.func11, Try.ntmps11
    go_wp2
    go_ret2
    exact ⟨rfl, rfl⟩
theorem mclone_any (w : World) (gm : Nat) (f : Int → Option Value) (hm : MapAt w gm f) :
    Calls Try.prog 41 #[.map (some gm)] w fun e w' => e = .returned (.map (some w.heap.size)) ∧ MapAt w' w.heap.size f ∧ Below w.heap.size w w' ∧ w'.heap.size = w.heap.size + 1 := by
  obtain ⟨es, clock, h1, h2, h3⟩ := hm
  have hq := fun w => run_eql_map_nil_sl (P := Try.prog) w 62 _ _ (some gm) Try.underlying62
  have H2 := Lib.hid h2
  have H3 := Lib.hid h3
  have H1 := Lib.hid h1
  clear h1 h2 h3
  go_enter Try.func41, Try.ntmps41
  go_wp2
  rw [run_callFunc_extern Try.func46 (by kernel_rfl) (by kernel_rfl) (by kernel_rfl) (e := Extern.MapsClone.clone) (by kernel_rfl), run_maps_clone_sl w 62 H1.out]
  simp only [Result.andThen]
  rw [Oper.upon_value]
  go_wp2
  rw [run_typeAssert_map_sl _ 62 20 _ _ _ Try.underlying62]
  simp only [Result.andThen]
  rw [Oper.upon_value]
  go_wp2
  go_ret
  exact ⟨rfl, ⟨es, clock, heap_alloc_new w _, H2.out, H3.out⟩, (Below.refl _ _).alloc (Nat.le_refl _) _, by simp⟩
theorem sclone_any (w : World) (base : Nat) (v : Value) (L : List (Int × Sec)) (hL : L.length ≤ 1000000) (hrow : w.ownsRow base 76 129 v L.length (L.flatMap wrc)) (hB : base ≤ w.heap.size) :
    Calls Try.prog 42 #[v] w fun e w' => ∃ A c, e = .returned (.slice A L.length c) ∧ w'.ownsRow base 76 129 (.slice A L.length c) L.length (L.flatMap wrc) ∧ Below w.heap.size w w' ∧ Over w.heap.size (rowOf (.slice A L.length c)) := by
  have hq := fun (w : World) (a : Option Addr) (n c n' c' : Nat) => Lib.run_eql_slice_nil (P := Try.prog) w 65 76 a n c n' c' Try.underlying65
  obtain ⟨i0, hi0, hz0, hz1, hz2⟩ := info_parts write_info
  have Hrow := Lib.hid hrow
  rcases hrow.2 with ⟨rfl, hn⟩ | ⟨g, cap, cur, rfl, -⟩
  · clear hrow
    obtain rfl : L = [] := List.eq_nil_of_length_eq_zero hn
    clear hn
    go_enter Try.func42, Try.ntmps42
    go_wp2
    go_ret
    exact ⟨_, _, rfl, World.ownsRow_nil _ _ _ _, Below.refl _ _, fun k hk => by simp [rowOf, Value.ownBlock] at hk⟩
  · clear hrow
    have hR := Reads.of_own Hrow.out
    go_enter Try.func42, Try.ntmps42
    have hmade : (w.alloc (.cells #[] 76)).ownsRow w.heap.size 76 129 (.slice (some ⟨w.heap.size, 0, none⟩) 0 0) 0 [] := by
      have := World.ownsRow_made (base := w.heap.size) (e := 76) (size := 129) w #[] 0 (Nat.le_refl _) (by simp [maxLen]) (by simp)
      simpa using this
    have hone : ∀ u ∈ L.flatMap wrc, u.oneCell' = true := fun u hu => by
      obtain ⟨x, _, hx⟩ := List.mem_flatMap.1 hu
      exact wr_one x u hx
    go_wp2_with (at_builtin; refine wpList_append_any _ rfl (.tmp 5) (.tmp 6) _ rfl w.heap.size 76 i0 _ 129 136 Try.underlying65 hi0 hz0 hz1 hz2 (by simp [Value.cells, wr_len]) (by omega) (.slice (some ⟨w.heap.size, 0, none⟩) 0 0) 0 [] rfl hmade w.heap.size (some ⟨g, 0, none⟩) L.length cap (L.flatMap wrc) rfl (hR.alloc (Nat.le_refl _) _) hone (by simp only [maxLen]; omega) (by omega) (by simp) ?_; intro v1 w1 hown hgrow hat)
    go_ret
    rw [Nat.zero_add, List.nil_append] at hown
    obtain ⟨A1, c1, rfl⟩ : ∃ A c, v1 = .slice A L.length c := by
      rcases hown.2 with ⟨rfl, hn⟩ | ⟨g', cap', cur, rfl, _⟩
      · rw [hn]; exact ⟨_, _, rfl⟩
      · exact ⟨_, _, rfl⟩
    refine ⟨A1, c1, rfl, ?_, ?_, ?_⟩
    · exact row_weaken hown hB
    · exact ((Below.refl _ w).alloc (Nat.le_refl _) _).grown hgrow (by simp) (fun k e => by simp [Value.ownBlock] at e; omega)
    · intro k hk
      rw [mem_rowOf] at hk
      exact (World.ownsRow.lt hown k hk).1
end Go.Proofs.Ytgcghoalepkdfaa
