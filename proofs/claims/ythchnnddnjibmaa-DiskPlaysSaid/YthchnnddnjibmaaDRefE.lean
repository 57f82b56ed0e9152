/-
  The document's own disk: New. Conditions: none.
-/
import Derived.Test.YthchnnddnjibmaaDRefD
import Derived.Laws.MakeOwn
namespace Go.Proofs.Ythchnnddnjibmaa
open Go.RowKit

/-- What lasts is another row now. -/
theorem XR.lasting {w w2 : World} {F G : Nat → Prop} {p : Nat} {D : DS} {vl vw vk v' : Value} {left : Int} {ls : List (List UInt8)} (h : XR w F p D vl vw vk left) (hFG : ∀ b, F b → G b) (hk : ∀ b, b < w.heap.size → vl.ownBlock ≠ some b → w2.heap[b]? = w.heap[b]?)
    (ho : w2.ownsRow 0 9 1 v' ls.length (SS ls)) (hG : ∀ b, v'.ownBlock = some b → G b) : XR (w2.setCell ⟨p, 0, none⟩ v') G p { D with lasts := ls } v' vw vk left := by
  have hpw : vl.ownBlock ≠ some p := fun e => row_not h.cells h.lasts (by decide) p e rfl
  have hc2 := (hk p h.lt hpw).trans h.cells
  have hw2 : w2.ownsRow 0 88 2 vw D.waits.length (WS D.waits) := row_same h.waits fun b hb => hk b (h.waits.lt b hb).2 fun e => rows_apart h.lasts h.waits (by decide) e hb rfl
  have hk2 : w2.ownsRow 0 4 1 vk D.keep.length (KS D.keep) := row_same h.keep fun b hb => hk b (h.keep.lt b hb).2 fun e => rows_apart h.lasts h.keep (by decide) e hb rfl
  refine ⟨hFG p h.inF, ?_, h.fuse, h.small, row_same ho fun b hb => set_other (row_not hc2 ho (by decide) b hb), hG, row_same hw2 fun b hb => set_other (row_not hc2 hw2 (by decide) b hb), fun b hb => hFG b (h.waitsF b hb), row_same hk2 fun b hb => set_other (row_not hc2 hk2 (by decide) b hb), fun b hb => hFG b (h.keepF b hb)⟩
  rw [Joins.block_setCell hc2 _]
  simp

/-- n sectors of noughts -/
def blank (n : Nat) : List (List UInt8) := List.replicate n (List.replicate 512 0)
theorem blank_snoc (n : Nat) : blank (n + 1) = blank n ++ [List.replicate 512 0] := List.replicate_succ'
theorem blank_length (n : Nat) : (blank n).length = n := List.length_replicate
theorem SS_append (l m : List (List UInt8)) : SS (l ++ m) = SS l ++ SS m := by unfold SS; rw [List.map_append]

theorem zero_text (w : World) : ∃ v w' bs, (Instr.makeSlice 27 (.int .i64 512) (.int .i64 512)).run Try.prog w = .ok v w' ∧ (convert 27 9 v).run Try.prog w' = .ok (.string bs) w' ∧ bs = ⟨(List.replicate 512 (0 : UInt8)).toArray⟩ ∧ Below w.heap.size w w' ∧ (∃ A, v = .slice A 512 512) := by
  obtain ⟨i0, hi, hz0, hz1, hz2⟩ := info_parts (show (Try.prog.info? 5).map (fun i => (i.zero, i.size, i.bytes)) = some (some (.int .u8 0), 1, 1) by kernel_rfl)
  obtain ⟨w', h1, h2, h3⟩ := run_make_full (P := Try.prog) w w.heap.size 27 5 i0 _ 1 Try.underlying27 hi hz0 hz1 .i64 .i64 512 (by rw [hz2]; omega) (by unfold maxLen; omega) (Nat.le_refl _)
  have hBS : (madeCells (Value.int .u8 0).cells (512 * 1)).toList = BS (List.replicate 512 0) := by
    show (madeCells #[Value.int .u8 0] (512 * 1)).toList = _
    rw [toList_madeCells_one]
    unfold BS
    rw [List.map_replicate]
    rfl
  rw [hBS] at h2
  exact ⟨_, w', _, h1, run_str (P := Try.prog) 27 5 9 Try.underlying27 Try.underlying5 Try.underlying9 (Rd.own h2), rfl, (Below.refl _ _).grown h3 (Nat.le_refl _) (fun k h => by cases h), _, rfl⟩

theorem xNew_no (n : Int) (w : World) (hn : n < 1 ∨ (65536 : Int) < n) :
    Calls Try.prog 23 #[.int .i64 n] w fun e w' => e = .returned (.tuple #[.pointer none, .int .i64 1]) ∧ w = w' := by
  have key : n < 1 ∨ (¬ n < 1 ∧ (65536 : Int) < n) := by omega
  clear hn
  rcases key with n1 | ⟨n1, n2⟩
  · go_enter Try.func23, Try.ntmps23
    go_wp2_with fail
    go_ret2
    exact ⟨rfl, rfl⟩
  · go_enter Try.func23, Try.ntmps23
    go_wp2_with fail
    go_ret2
    exact ⟨rfl, rfl⟩

set_option maxHeartbeats 2000000 in
theorem xNew_yes (n : Nat) (w : World) (hn1 : 1 ≤ n) (hn2 : n ≤ 65536) :
    Calls Try.prog 23 #[.int .i64 (n : Int)] w fun e w' => Below w.heap.size w w' ∧ ∃ q, e = .returned (.tuple #[.pointer (some ⟨q, 0, none⟩), .int .i64 0]) ∧ XD w' (Made w w') q (DS.new n) := by
  have n1 : ¬ (n : Int) < 1 := by omega
  have n2 : ¬ (65536 : Int) < (n : Int) := by omega
  obtain ⟨v0, w1, bs, hmk, hcv, hbs, hb1, A0, hv0⟩ := zero_text w
  subst hv0
  have HBS := Lib.hid hbs
  obtain ⟨i0, hi0, hz0, hz1, hz2⟩ := info_parts info_S
  have hsz1 := hb1.size
  have hnew := heap_alloc_new w1 (.cells #[.slice none 0 0, .slice none 0 0, .int .i64 0, .bool false, .bool false, .int .i64 0, .slice none 0 0] 86 (0, 0))
  have hb2 : Below w.heap.size w (w1.alloc (.cells #[.slice none 0 0, .slice none 0 0, .int .i64 0, .bool false, .bool false, .int .i64 0, .slice none 0 0] 86 (0, 0))) := hb1.alloc hsz1 _
  have hst : XD (w1.alloc (.cells #[.slice none 0 0, .slice none 0 0, .int .i64 0, .bool false, .bool false, .int .i64 0, .slice none 0 0] 86 (0, 0))) (Made w (w1.alloc (.cells #[.slice none 0 0, .slice none 0 0, .int .i64 0, .bool false, .bool false, .int .i64 0, .slice none 0 0] 86 (0, 0)))) w1.heap.size ⟨blank 0, [], 0, false, none, []⟩ :=
    ⟨_, _, _, _, ⟨hsz1, by simp⟩, hnew, (fun q hq => by cases hq), (fun q hq => by cases hq), World.ownsRow_nil _ _ _ _, (fun b hb => by cases hb), World.ownsRow_nil _ _ _ _, (fun b hb => by cases hb), World.ownsRow_nil _ _ _ _, (fun b hb => by cases hb)⟩
  have HST := Lib.hid hst
  have HB2 := Lib.hid hb2
  clear hbs hnew hst hb2
  go_enter Try.func23, Try.ntmps23
  go_wp2_with fail
  have hst := HST.out
  have hb2 := HB2.out
  obtain ⟨w2, hw2⟩ : ∃ w2, w2 = w1.alloc (.cells #[.slice none 0 0, .slice none 0 0, .int .i64 0, .bool false, .bool false, .int .i64 0, .slice none 0 0] 86 (0, 0)) := ⟨_, rfl⟩
  rw [← hw2] at hst hb2 ⊢
  obtain ⟨p, hp⟩ : ∃ p, p = w1.heap.size := ⟨_, rfl⟩
  rw [← hp] at hst ⊢
  clear hw2 hp HST HB2 hcv hmk hb1 hsz1
  go_loopw [6] (fun i wr => ∃ j : Nat, i = .int .i64 j ∧ j ≤ n ∧ XD wr (Made w wr) p ⟨blank j, [], 0, false, none, []⟩ ∧ Below w.heap.size w wr) (fun i _ => n - (intOf i).toNat)
  case atStart => exact ⟨0, rfl, by omega, hst, hb2⟩
  case round =>
    obtain ⟨j, rfl, hj, hx, hb⟩ := hrel
    clear hst hb2
    by_cases hjn : j < n
    · have i1 : (j : Int) < (n : Int) := by omega
      obtain ⟨vl, vw, vk, left, hx⟩ := hx
      have c0 : wr.cell? ⟨p, 0, none⟩ = some vl := (row7 hx.cells).1 0
      have hps := hx.lt
      have hwsz := hb.size
      have hpw : w.heap.size ≤ p := hx.inF.1
      have hown : wr.ownsRow 0 9 1 vl j (SS (blank j)) := own_eq hx.lasts (blank_length j) rfl (Nat.le_refl _)
      have hrow : RowAt (wr.alloc (.cells #[.string bs] 9)) (.slice (some ⟨wr.heap.size, 0, none⟩) 1 1) 1 1 (SS [List.replicate 512 0]) := by
        have ho := World.ownsRow_lit (base := 0) (e := 9) (size := 1) wr #[.string bs] 1 (Nat.zero_le _) (by unfold maxLen; omega) rfl
        rw [HBS.out] at ho ⊢
        exact RowAt.of_own ho
      have H := Lib.hid hx
      have HOWN := Lib.hid hown
      have HROW := Lib.hid hrow
      clear hx hown hrow
      go_wp2_with (at_builtin; go_must (refine wpList_appL rfl (.tmp 26) (.tmp 28) 60 rfl 0 9 i0 _ 1 16 Try.underlying60 hi0 hz0 hz1 hz2 rfl (by decide) vl _ j (SS (blank j)) 1 (SS [List.replicate 512 0]) rfl rfl (HOWN.out.alloc _) HROW.out (SS_one _) (by decide) (by unfold maxLen; omega) (by omega) (Nat.zero_le _) ?_; intro g2 cp2 w3 ho3 hg3 hgl hg22; have hk3 : Kept wr w3 (fun n => vl.ownBlock = some n) := (Kept.alloc wr _ _).trans (Kept.grown (F := fun n => vl.ownBlock = some n) hg3 (fun _ h => h)) (fun _ h => .inl h); have hc3 := (hk3.block p hps (fun e => row_not H.out.cells H.out.lasts (by decide) p e rfl)).trans H.out.cells; have d0 := (row7 hc3).1 0; have f0 := (row7 hc3).2 0; have HO3 := Lib.hid ho3; have HGL := Lib.hid hgl; have HK3 := Lib.hid hk3; clear ho3 hg3 hgl hk3 hc3))
      have hk3 := HK3.out
      have ho3 : w3.ownsRow 0 9 1 (.slice (some ⟨g2, 0, none⟩) (j + 1) cp2) (blank (j + 1)).length (SS (blank (j + 1))) := own_eq HO3.out (by rw [blank_length]) (by rw [blank_snoc, SS_append]) (Nat.le_refl _)
      have hw3 : ∀ u : Value, (w3.setCell ⟨p, 0, none⟩ u).heap.size = w3.heap.size := fun u => by simp
      have hk3s := hk3.size
      have hb3 : Below w.heap.size w (w3.setCell ⟨p, 0, none⟩ (.slice (some ⟨g2, 0, none⟩) (j + 1) cp2)) :=
        (hb.trans (hk3.below hwsz (fun b hb => (H.out.lastsF b hb).1))).setCell (p := ⟨p, 0, none⟩) hpw _
      have hx4 := H.out.lasting (G := Made w (w3.setCell ⟨p, 0, none⟩ (.slice (some ⟨g2, 0, none⟩) (j + 1) cp2))) (fun b hb => ⟨hb.1, by rw [hw3]; have := hb.2; omega⟩) (fun b hb hne => hk3.block b hb hne) ho3 (fun b hb => by
        injection hb with hb
        subst hb
        refine ⟨?_, by rw [hw3]; exact hg22⟩
        rcases HGL.out with h1 | h1
        · exact (H.out.lastsF _ h1).1
        · show w.heap.size ≤ g2
          rw [h1]
          simp
          omega)
      exact ⟨⟨j + 1, by go_num, hjn, ⟨_, _, _, _, hx4⟩, hb3⟩, by simp [intOf]; omega⟩
    · have i1 : ¬ (j : Int) < (n : Int) := by omega
      obtain rfl : j = n := by omega
      have HX := Lib.hid hx
      clear hx
      go_wp2_with fail
      go_ret2
      exact ⟨hb, p, rfl, HX.out⟩
end Go.Proofs.Ythchnnddnjibmaa
