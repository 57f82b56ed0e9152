/-
  PROVED HERE: CodeNames: the limits of package code are where the document has them: the law returns true. No condition (it takes no argument).
-/
import Derived.Test.YtfpammdpnccciaaWorks
import Derived.Test.YtfpammdpnccciaaPlainB
namespace Go.Proofs.Ytfpammdpnccciaa
open Go.RowKit

/-- what is asked of some bytes does not stand there -/
def Bad (l : List UInt8) (kind most : Int) : Prop := (kind = 0 ∧ gNum l = none) ∨ (kind = 1 ∧ gCount most l = none) ∨ (kind = 2 ∧ gStr most l = none) ∨ (kind = 3 ∧ gFlag l = none)
/-- the law's table, row by row -/
def TableOk (T : Nat) (w : World) : Prop :=
  ∀ k, k < 10 → ∃ (bs : ByteArray) (kind most : Int), w.cell? ⟨T, k * 3, none⟩ = some (.string bs) ∧ w.cell? ⟨T, k * 3 + 1, none⟩ = some (.int .i64 kind) ∧ w.cell? ⟨T, k * 3 + 2, none⟩ = some (.int .i64 most) ∧ bs.size < 1000 ∧ Bad bs.data.toList kind most
theorem TableOk.below {T B : Nat} {w w' : World} (h : TableOk T w) (hb : Below B w w') (hT : T < B) : TableOk T w' := by
  intro k hk
  obtain ⟨bs, kind, most, h1, h2, h3, h4⟩ := h k hk
  exact ⟨bs, kind, most, (hb.cell (p := ⟨T, _, none⟩) hT).trans h1, (hb.cell (p := ⟨T, _, none⟩) hT).trans h2, (hb.cell (p := ⟨T, _, none⟩) hT).trans h3, h4⟩
theorem table_ok {w : World} {T : Nat} {E : TypeId} (h : w.heap[T]? = some (.cells #[.string ⟨#[128, 0]⟩, .int .i64 1, .int .i64 9, .string ⟨#[5]⟩, .int .i64 1, .int .i64 4, .string ⟨#[2, 97]⟩, .int .i64 2, .int .i64 9,
      .string ⟨#[2]⟩, .int .i64 3, .int .i64 0, .string ⟨#[]⟩, .int .i64 0, .int .i64 0, .string ⟨#[128]⟩, .int .i64 0, .int .i64 0, .string ⟨#[0]⟩, .int .i64 1, .int .i64 (-1),
      .string ⟨#[2, 97, 98]⟩, .int .i64 2, .int .i64 1, .string ⟨#[255, 255, 255, 255, 255, 255, 255, 255, 255, 2]⟩, .int .i64 0, .int .i64 0, .string ⟨#[128, 128, 128, 128, 8]⟩, .int .i64 1, .int .i64 1099511627776] E (0, 0))) : TableOk T w := by
  obtain ⟨hc, _⟩ := row_cells h
  intro k hk
  match k, hk with
  | 0, _ => exact ⟨_, _, _, hc 0, hc 1, hc 2, by decide, by unfold Bad; decide +kernel⟩
  | 1, _ => exact ⟨_, _, _, hc 3, hc 4, hc 5, by decide, by unfold Bad; decide +kernel⟩
  | 2, _ => exact ⟨_, _, _, hc 6, hc 7, hc 8, by decide, by unfold Bad; decide +kernel⟩
  | 3, _ => exact ⟨_, _, _, hc 9, hc 10, hc 11, by decide, by unfold Bad; decide +kernel⟩
  | 4, _ => exact ⟨_, _, _, hc 12, hc 13, hc 14, by decide, by unfold Bad; decide +kernel⟩
  | 5, _ => exact ⟨_, _, _, hc 15, hc 16, hc 17, by decide, by unfold Bad; decide +kernel⟩
  | 6, _ => exact ⟨_, _, _, hc 18, hc 19, hc 20, by decide, by unfold Bad; decide +kernel⟩
  | 7, _ => exact ⟨_, _, _, hc 21, hc 22, hc 23, by decide, by unfold Bad; decide +kernel⟩
  | 8, _ => exact ⟨_, _, _, hc 24, hc 25, hc 26, by decide, by unfold Bad; decide +kernel⟩
  | 9, _ => exact ⟨_, _, _, hc 27, hc 28, hc 29, by decide, by unfold Bad; decide +kernel⟩

theorem names_next {T R : Nat} {w wr W2 W3 W4 : World} (hT : TableOk T wr) (hb : Below w.heap.size w wr) (hlt : T < wr.heap.size) (hb2 : Below wr.heap.size wr W2) (hb3 : Below W2.heap.size W2 W3) (hR : wr.heap.size < R) (hg : W3.grownBy W4 (some R)) :
    TableOk T W4 ∧ Below w.heap.size w W4 ∧ T < W4.heap.size := by
  have hall : Below wr.heap.size wr W4 := (hb2.trans (hb3.mono hb2.size)).grown hg (Nat.le_trans hb2.size hb3.size) (fun k h => by injection h with h; omega)
  exact ⟨hT.below hall hlt, hb.trans (hall.mono hb.size), Nat.lt_of_lt_of_le hlt hall.size⟩

set_option maxRecDepth 100000 in
set_option maxHeartbeats 2000000 in
theorem names_walk (w : World) : Calls Try.prog 3 #[] w fun e w' => e = .returned (.bool true) ∧ Below w.heap.size w w' := by
  go_enter Try.func3, Try.ntmps3
  go_wp2_with fail
  refine (works_any _).mono ?_
  rintro e w1 ⟨rfl, hb1⟩
  go_wp2_with fail
  refine (count_no [] (.slice none 0 0) (-1) _ (Rd.nil _ _) (by omega) (by simp)).mono ?_
  rintro e w2 ⟨v2, rfl, ho2, hb2⟩
  have hb2' := hb1.trans (hb2.mono hb1.size)
  obtain ⟨A2, c2, rfl, -⟩ := Rd.own ho2
  clear ho2 hb2
  go_wp2_with fail
  refine (count_no [] (.slice none 0 0) 2147483648 _ (Rd.nil _ _) (by omega) (by simp)).mono ?_
  rintro e w3 ⟨v3, rfl, ho3, hb3⟩
  have hb3' := hb2'.trans (hb3.mono hb2'.size)
  obtain ⟨A3, c3, rfl, -⟩ := Rd.own ho3
  clear ho3 hb3
  go_wp2_with fail
  refine (count_any [] (.slice none 0 0) 2147483647 _ (Rd.nil _ _) (by omega) (by omega) (by simp)).mono ?_
  rintro e w4 ⟨v4, rfl, ho4, hb4⟩
  have hb4' := hb3'.trans (hb4.mono hb3'.size)
  obtain ⟨A4, c4, rfl, -⟩ := Rd.own ho4
  have hl4 : ([] ++ uv (2147483647 : Int).toNat).length = 5 := by rw [List.nil_append, show (2147483647 : Int).toNat = 2147483647 from rfl]; exact uv_max
  rw [hl4]
  clear ho4 hb4 hl4
  go_wp2_with fail
  refine (num_any [] (.slice none 0 0) (-9223372036854775808) _ (Rd.nil _ _) (by unfold I64; omega) (by simp)).mono ?_
  rintro e w5 ⟨v5, rfl, ho5, hb5⟩
  have hb5' := hb4'.trans (hb5.mono hb4'.size)
  have hr5 := Rd.own ho5
  rw [uv_least, List.nil_append] at hr5
  have hcv := conv_str hr5
  have hsz := hb5'.size
  clear ho5 hb5 hr5 hb1 hb2' hb3' hb4'
  go_wp2_with fail
  clear hcv
  go_loopw [41] (fun i wr => ∃ k : Nat, i = .int .i64 k ∧ k ≤ 10 ∧ TableOk w5.heap.size wr ∧ Below w.heap.size w wr ∧ w5.heap.size < wr.heap.size) (fun i _ => 10 - (intOf i).toNat)
  case atStart => exact ⟨0, rfl, by omega, table_ok (heap_alloc_new w5 _), hb5'.alloc hsz _, by simp⟩
  case round =>
    obtain ⟨k, rfl, hk, hT, hb, hlt⟩ := hrel
    by_cases hk9 : k < 10
    · obtain ⟨bs, kind, most, hc1, hc2, hc3, hbs, hbad⟩ := hT k hk9
      have hk' : (k : Int) < 10 := by omega
      obtain ⟨A, c, W2, hrun, hrd, hgr, hsz2⟩ := conv_bytes bs (wr.alloc (.cells #[.string bs, .int .i64 kind, .int .i64 most] 26)) (by omega)
      have hb2 : Below wr.heap.size wr W2 := ((Below.refl wr.heap.size wr).alloc (Nat.le_refl _) (.cells #[.string bs, .int .i64 kind, .int .i64 most] 26)).grown hgr (by simp) (fun k h => by cases h)
      have hd0 : ∀ i, W2.cell? ⟨wr.heap.size, i, none⟩ = #[Value.string bs, .int .i64 kind, .int .i64 most][i]? := fun i => by
        rw [World.cell?_of_block (hgr.block wr.heap.size (by simp) (by simp))]; exact World.cell?_alloc_new _ _ _ _
      have hs2 : wr.heap.size < W2.heap.size := by rw [hsz2]; simp; omega
      have HD := Lib.hid hd0
      have hbs2 : bs.data.toList.length ≤ 140737488355328 := by simp; omega
      clear hd0 hsz2 hgr
      go_wp2_with fail
      refine (New_any bs.data.toList _ _ hrd hbs2).mono ?_
      rintro e W3 ⟨R, rfl, hR, hd, hb3⟩
      have hd1 : W3.cell? ⟨wr.heap.size, 1, none⟩ = some (.int .i64 kind) := (hb3.cell (p := ⟨wr.heap.size, 1, none⟩) hs2).trans (HD.out 1)
      have hd2 : W3.cell? ⟨wr.heap.size, 2, none⟩ = some (.int .i64 most) := (hb3.cell (p := ⟨wr.heap.size, 2, none⟩) hs2).trans (HD.out 2)
      have hR2 : wr.heap.size < R := Nat.lt_of_lt_of_le hs2 hR
      clear hrun hc1 hc2 hc3 hrd
      rcases hbad with ⟨rfl, hn⟩ | ⟨rfl, hn⟩ | ⟨rfl, hn⟩ | ⟨rfl, hn⟩
      · have HT := Lib.hid (told_none (z := (0 : Int)) hn)
        clear hn
        go_wp2_with fail
        refine (Num_any R _ _ hd).mono ?_
        rintro e W4 ⟨rfl, hg4, hd4⟩
        rw [HT.out] at hd4 ⊢
        go_wp2_with fail
        refine (ok_any R none _ hd4).mono ?_
        rintro e W5 ⟨rfl, rfl⟩
        go_wp2_with fail
        refine (left_any R none _ hd4).mono ?_
        rintro e W5 ⟨rfl, rfl⟩
        go_wp2_with fail
        refine (done_any R none _ hd4).mono ?_
        rintro e W5 ⟨rfl, rfl⟩
        go_wp2_with fail
        refine (Num_any R none _ hd4).mono ?_
        rintro e W5 ⟨rfl, hg5, hd5⟩
        go_wp2_with fail
        refine (Str_any R 9 none _ hd5).mono ?_
        rintro e W6 ⟨rfl, hg6, hd6⟩
        go_wp2_with fail
        refine ⟨⟨k + 1, by go_num, by omega, ?_⟩, by simp [intOf]; omega⟩
        exact names_next hT hb hlt hb2 hb3 hR2 (grown_trans hg4 (grown_trans hg5 hg6))
      · have HT := Lib.hid (told_none (z := (0 : Int)) hn)
        clear hn
        go_wp2_with fail
        refine (Count_any R most _ _ hd).mono ?_
        rintro e W4 ⟨rfl, hg4, hd4⟩
        rw [HT.out] at hd4 ⊢
        go_wp2_with fail
        refine (ok_any R none _ hd4).mono ?_
        rintro e W5 ⟨rfl, rfl⟩
        go_wp2_with fail
        refine (left_any R none _ hd4).mono ?_
        rintro e W5 ⟨rfl, rfl⟩
        go_wp2_with fail
        refine (done_any R none _ hd4).mono ?_
        rintro e W5 ⟨rfl, rfl⟩
        go_wp2_with fail
        refine (Num_any R none _ hd4).mono ?_
        rintro e W5 ⟨rfl, hg5, hd5⟩
        go_wp2_with fail
        refine (Str_any R 9 none _ hd5).mono ?_
        rintro e W6 ⟨rfl, hg6, hd6⟩
        go_wp2_with fail
        refine ⟨⟨k + 1, by go_num, by omega, ?_⟩, by simp [intOf]; omega⟩
        exact names_next hT hb hlt hb2 hb3 hR2 (grown_trans hg4 (grown_trans hg5 hg6))
      · have HT := Lib.hid (told_none (z := ([] : List UInt8)) hn)
        clear hn
        go_wp2_with fail
        refine (Str_any R most _ _ hd).mono ?_
        rintro e W4 ⟨rfl, hg4, hd4⟩
        rw [HT.out] at hd4 ⊢
        go_wp2_with fail
        refine (ok_any R none _ hd4).mono ?_
        rintro e W5 ⟨rfl, rfl⟩
        go_wp2_with fail
        refine (left_any R none _ hd4).mono ?_
        rintro e W5 ⟨rfl, rfl⟩
        go_wp2_with fail
        refine (done_any R none _ hd4).mono ?_
        rintro e W5 ⟨rfl, rfl⟩
        go_wp2_with fail
        refine (Num_any R none _ hd4).mono ?_
        rintro e W5 ⟨rfl, hg5, hd5⟩
        go_wp2_with fail
        refine (Str_any R 9 none _ hd5).mono ?_
        rintro e W6 ⟨rfl, hg6, hd6⟩
        go_wp2_with fail
        refine ⟨⟨k + 1, by go_num, by omega, ?_⟩, by simp [intOf]; omega⟩
        exact names_next hT hb hlt hb2 hb3 hR2 (grown_trans hg4 (grown_trans hg5 hg6))
      · have HT := Lib.hid (told_none (z := false) hn)
        clear hn
        go_wp2_with fail
        refine (Flag_any R _ _ hd).mono ?_
        rintro e W4 ⟨rfl, hg4, hd4⟩
        rw [HT.out] at hd4 ⊢
        go_wp2_with fail
        refine (ok_any R none _ hd4).mono ?_
        rintro e W5 ⟨rfl, rfl⟩
        go_wp2_with fail
        refine (left_any R none _ hd4).mono ?_
        rintro e W5 ⟨rfl, rfl⟩
        go_wp2_with fail
        refine (done_any R none _ hd4).mono ?_
        rintro e W5 ⟨rfl, rfl⟩
        go_wp2_with fail
        refine (Num_any R none _ hd4).mono ?_
        rintro e W5 ⟨rfl, hg5, hd5⟩
        go_wp2_with fail
        refine (Str_any R 9 none _ hd5).mono ?_
        rintro e W6 ⟨rfl, hg6, hd6⟩
        go_wp2_with fail
        refine ⟨⟨k + 1, by go_num, by omega, ?_⟩, by simp [intOf]; omega⟩
        exact names_next hT hb hlt hb2 hb3 hR2 (grown_trans hg4 (grown_trans hg5 hg6))
    · have hk' : ¬ (k : Int) < 10 := by omega
      go_wp2_with fail
      refine (ok_nil _).mono ?_
      rintro e x1 ⟨rfl, rfl⟩
      go_wp2_with fail
      refine (done_nil _).mono ?_
      rintro e x1 ⟨rfl, rfl⟩
      go_wp2_with fail
      refine (left_nil _).mono ?_
      rintro e x1 ⟨rfl, rfl⟩
      go_wp2_with fail
      refine (Num_nil _).mono ?_
      rintro e x1 ⟨rfl, hx1⟩
      have hy1 := hb.trans (hx1.mono hb.size)
      go_wp2_with fail
      refine (Count_nil 9 _).mono ?_
      rintro e x2 ⟨rfl, hx2⟩
      have hy2 := hy1.trans (hx2.mono hy1.size)
      go_wp2_with fail
      refine (Str_nil 9 _).mono ?_
      rintro e x3 ⟨rfl, hx3⟩
      have hy3 := hy2.trans (hx3.mono hy2.size)
      go_wp2_with fail
      refine (Flag_nil _).mono ?_
      rintro e x4 ⟨rfl, hx4⟩
      have hy4 := hy3.trans (hx4.mono hy3.size)
      go_wp2_with fail
      go_ret
      exact ⟨rfl, hy4⟩
end Go.Proofs.Ytfpammdpnccciaa
