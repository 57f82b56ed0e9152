/-
  MsgNames walked. No statement is proved here. No condition.
-/
import Derived.Test.YtblbcoknefgcaaaMOnly
namespace Go.Proofs.Ytblbcoknefgcaaa
open Go.RowKit

theorem noughts_rd (n : Nat) (hn : n ≤ 140737488355328) (w : World) : ∃ w', (Instr.makeSlice 23 (.int .i64 (n : Int)) (.int .i64 (n : Int))).run Try.prog w = .ok (.slice (some ⟨w.heap.size, 0, none⟩) n n) w' ∧ Rd w' w'.heap.size (.slice (some ⟨w.heap.size, 0, none⟩) n n) (List.replicate n 0) ∧ Below w.heap.size w w' := by
  obtain ⟨i0, hi, hz0, hz1, hz2⟩ := info_parts info_u8
  obtain ⟨w', h1, h2, h3⟩ := run_make_full (P := Try.prog) w w.heap.size 23 5 i0 _ 1 Try.underlying23 hi hz0 hz1 .i64 .i64 n (by rw [hz2]; omega) (by unfold maxLen; omega) (Nat.le_refl _)
  have hBS : (madeCells (Value.int .u8 0).cells (n * 1)).toList = BS (List.replicate n 0) := by
    show (madeCells #[Value.int .u8 0] (n * 1)).toList = _
    rw [toList_madeCells_one]
    unfold BS
    rw [List.map_replicate, Nat.mul_one]
    rfl
  rw [hBS] at h2
  exact ⟨w', h1, Rd.own h2, (Below.refl _ _).grown h3 (Nat.le_refl _) (fun k h => by cases h)⟩
/-- noughts as a text -/
def nT (n : Nat) : ByteArray := ⟨(List.replicate n (0 : UInt8)).toArray⟩
theorem nT_size (n : Nat) : (nT n).data.toList.length = n := by unfold nT; simp
/-- a message of a kind, a shard and a state -/
def mS (k sh : Int) (s : ByteArray) : MG := { zMG with kind := k, shard := sh, state := s }
theorem i0 : I64 0 := by unfold I64; omega
theorem k0 : (0 : Int) ≤ 0 ∧ (0 : Int) ≤ 255 := by omega
theorem mS_fit {k sh : Int} {s : ByteArray} (hk : 0 ≤ k ∧ k ≤ 255) (hs : I64 sh) : (mS k sh s).fit :=
  ⟨⟨hk, ⟨hs, i0, i0, i0, i0, i0⟩, k0, i0, k0, ⟨i0, i0, i0, i0, i0⟩, i0, ⟨k0, i0, i0, i0⟩⟩, ⟨by show (0 : Nat) < 2 ^ 60; decide, by show (0 : Nat) < 2 ^ 60; decide, by show (0 : Nat) < 2 ^ 60; decide, by show (0 : Nat) < 2 ^ 60; decide⟩, (fun e h => by cases h), (fun e h => by cases h), (fun e h => by cases h)⟩
theorem z1 : (uv (zz 0)).length = 1 := by decide +kernel
theorem z2 : (cv 0).length = 1 := by decide +kernel
theorem z3 : (tv []).length = 1 := by decide +kernel
theorem z4 (b : Bool) : (fv b).length = 1 := rfl
theorem mS_len (k sh : Int) (s : ByteArray) : (mS k sh s).by.length = (cv k).length + (uv (zz sh)).length + 30 + (tv s.data.toList).length := by
  have e1 : (mS k sh s).by = cv k ++ uv (zz sh) ++ uv (zz 0) ++ uv (zz 0) ++ uv (zz 0) ++ uv (zz 0) ++ uv (zz 0) ++ cv 0 ++ tv [] ++ tv [] ++ tv [] ++ fv false
    ++ uv (zz 0) ++ (cv 0 ++ fv false ++ tv []) ++ uv (zz 0) ++ uv (zz 0) ++ uv (zz 0) ++ uv (zz 0) ++ uv (zz 0) ++ fv false
    ++ cv 0 ++ [] ++ (cv 0 ++ []) ++ tv s.data.toList ++ uv (zz 0) ++ fv false ++ cv 0 ++ [] ++ cv 0 ++ []
    ++ cv 0 ++ uv (zz 0) ++ uv (zz 0) ++ uv (zz 0) := rfl
  rw [e1]
  simp only [List.length_append, z1, z2, z3, z4, List.length_nil]
  omega
theorem tv_nT (n : Nat) : (tv (nT n).data.toList).length = (uv n).length + n := by unfold tv; rw [List.length_append, nT_size]
theorem mS_cells (k sh : Int) (s : ByteArray) : (mS k sh s).cells (.slice none 0 0) (.slice none 0 0) (.slice none 0 0) (.slice none 0 0) = ((zC.setIfInBounds 0 (.int .u8 k)).setIfInBounds 1 (.int .i64 sh)).setIfInBounds 24 (.string s) := rfl
theorem enc_mS {k sh : Int} (s : ByteArray) (hk : 0 ≤ k ∧ k ≤ 255) (hs : I64 sh) {cs : Array Value} (hc : cs = (mS k sh s).cells (.slice none 0 0) (.slice none 0 0) (.slice none 0 0) (.slice none 0 0)) (W : World) :
    Calls Try.prog 15 #[.agg cs] W fun e w' => EncA W w' (mS k sh s).out.1 (mS k sh s).out.2 e := by
  rw [hc]
  exact enc_prog (mS k sh s) (.slice none 0 0) (.slice none 0 0) (.slice none 0 0) (.slice none 0 0) W ⟨⟨[], Rec.N.nil _ _, rfl, fun i r e h => by simp at h⟩, Rec.N.nil _ _, Rec.N.nil _ _, Rec.N.nil _ _⟩ (mS_fit hk hs)
/-- the first message's bytes -/
def bA : List UInt8 := [8, 4, 0, 0, 0, 0, 0, 0, 0, 0, 0, 0, 0, 0, 0, 0, 0, 0, 0, 0, 0, 0, 0, 0, 0, 0, 0, 0, 0, 0, 0, 0, 0]
theorem bA_is : (mS 8 2 ⟨#[]⟩).by = bA := by decide +kernel
theorem mA_small : (mS 8 2 ⟨#[]⟩).small := ⟨by decide, by decide, (fun e h => by cases h), (fun e h => by cases h), (fun e h => by cases h)⟩
theorem mA_fit : (mS 8 2 ⟨#[]⟩).fit := mS_fit (by omega) (by unfold I64; omega)
theorem oA : (mS 8 2 ⟨#[]⟩).out = (bA, 0) := by rw [out_yes rfl (by rw [bA_is]; decide), bA_is]
theorem oB : (mS 0 0 ⟨#[]⟩).out = ([], 1) := out_no rfl
theorem oC : (mS 20 0 ⟨#[]⟩).out = ([], 1) := out_no rfl
theorem oD : (mS 1 0 (nT 8192)).out = ([], 40) := out_full rfl (by rw [mS_len, tv_nT]; omega)
theorem oE : ∃ l, (mS 8 2 (nT 8158)).out = (l, 0) := ⟨_, out_yes rfl (by rw [mS_len, tv_nT, show (cv 8).length = 1 by decide +kernel, show (uv (zz 2)).length = 1 by decide +kernel, show (uv 8158).length = 2 by decide +kernel]; omega)⟩
theorem oF : (mS 8 2 (nT 8159)).out = ([], 40) := out_full rfl (by rw [mS_len, tv_nT, show (cv 8).length = 1 by decide +kernel, show (uv (zz 2)).length = 1 by decide +kernel, show (uv 8159).length = 2 by decide +kernel]; omega)
/-- more bytes behind those of one's own -/
theorem app_any {w : World} {B c : Nat} {A : Option Addr} {l m : List UInt8} {vx : Value} (h : w.ownsRow B 5 1 (.slice A l.length c) l.length (BS l)) (hx : Rd w w.heap.size vx m) (hl : l.length + m.length ≤ 20000) (hB : B ≤ w.heap.size) :
    ∃ A7 c7 w7, (Builtin.append_ #[23, 23] 23 #[.slice A l.length c, vx]).run Try.prog w = .ok (.slice A7 (l.length + m.length) c7) w7 ∧ w7.ownsRow B 5 1 (.slice A7 (l.length + m.length) c7) (l.length + m.length) (BS (l ++ m)) ∧ Below B w w7 := by
  obtain ⟨i0', hi, hz0, hz1, hz2⟩ := info_parts info_u8
  obtain ⟨v', w', hr, ho, hg⟩ := run_app (P := Try.prog) (w := w) B 23 23 5 i0' Try.underlying23 hi hz0 hz1 hz2 _ _ l m l.length h w.heap.size hx (by omega) hB
  have ho2 : w'.ownsRow B 5 1 v' (l ++ m).length (BS (l ++ m)) := by rw [List.length_append]; exact ho
  obtain ⟨A7, c7, hv⟩ := own_slice ho2
  rw [List.length_append] at hv
  subst hv
  exact ⟨A7, c7, w', hr, ho, (Below.refl _ _).grown hg hB fun p hp => (h.lt p hp).1⟩
theorem lit_own (w : World) (l : List UInt8) (hl : l.length ≤ 20000) {B : Nat} (hB : B ≤ w.heap.size) : (w.alloc (.cells (BS l).toArray 5)).ownsRow B 5 1 (.slice (some ⟨w.heap.size, 0, none⟩) l.length l.length) l.length (BS l) := by
  have := World.ownsRow_lit (e := 5) (size := 1) w (BS l).toArray l.length hB (by unfold maxLen; omega) (by simp [BS_length])
  exact this
/-- what no message has as its bytes -/
def Bad (l : List UInt8) : Prop := l.length ≤ 20000 ∧ ∀ (w w' : World) (e : Ending), DecP w w' l e → e = .returned (.tuple #[.agg zC, .int .i64 4])
theorem by_head {m : MG} (hk : kindB m.kind = true) : ∃ t, m.by = UInt8.ofNat m.kind.toNat :: t := by
  simp only [kindB, Bool.and_eq_true, decide_eq_true_eq] at hk
  have e : cv m.kind = [UInt8.ofNat m.kind.toNat] := by
    rw [cv_in (by omega) (by omega)]
    unfold uv
    rw [if_pos (by omega)]
  unfold MG.by
  rw [e]
  simp only [List.append_assoc, List.cons_append, List.nil_append]
  exact ⟨_, rfl⟩
theorem bad_nil : Bad [] := ⟨by simp, fun w w' e h => by
  rcases dec_cases h with h | ⟨n, -, -, -, -, -, -, e1, -, -, hk, -⟩
  · exact h
  · obtain ⟨t, ht⟩ := by_head hk
    rw [ht] at e1
    cases e1⟩
theorem bad_head (x : UInt8) (t : List UInt8) (hl : (x :: t).length ≤ 20000) (hx : x = 0 ∨ x = 20) : Bad (x :: t) := ⟨hl, fun w w' e h => by
  rcases dec_cases h with h | ⟨n, -, -, -, -, -, -, e1, -, -, hk, -⟩
  · exact h
  · exfalso
    obtain ⟨t', ht⟩ := by_head hk
    rw [ht] at e1
    injection e1 with e1 e2
    simp only [kindB, Bool.and_eq_true, decide_eq_true_eq] at hk
    have h1 := congrArg UInt8.toNat e1
    rw [byte_small (by omega)] at h1
    rcases hx with rfl | rfl
    · have : (0 : UInt8).toNat = 0 := rfl
      omega
    · have : (20 : UInt8).toNat = 20 := rfl
      omega⟩
theorem bad_cut : Bad (bA.take 32) := ⟨by decide, fun w w' e h => by
  rw [← bA_is] at h
  exact dec_cut mA_fit mA_small rfl (by rw [bA_is]; decide) h⟩
theorem bad_more : Bad (bA ++ [0]) := ⟨by decide, fun w w' e h => by
  rcases dec_cases h with h | ⟨n, -, -, -, -, -, -, e1, nf, ns, -, -⟩
  · exact h
  · exfalso
    have h1 := msg_back nf ns []
    have h2 := msg_back mA_fit mA_small [0]
    rw [List.append_nil, ← e1] at h1
    rw [bA_is] at h2
    have := Option.some.inj (msg_same h1 h2).2
    cases this⟩
theorem set_own {w : World} {B g c : Nat} {l : List UInt8} (h : w.ownsRow B 5 1 (.slice (some ⟨g, 0, none⟩) l.length c) l.length (BS l)) (x : UInt8) : (w.setCell ⟨g, 0, none⟩ (.int .u8 (x.toNat : Int))).ownsRow B 5 1 (.slice (some ⟨g, 0, none⟩) l.length c) l.length (BS (l.set 0 x)) := by
  have h1 := (h.stored 0 (.int .u8 (x.toNat : Int))).1
  have e : (BS l).set 0 (.int .u8 (x.toNat : Int)) = BS (l.set 0 x) := by unfold BS; rw [List.map_set]
  rw [e] at h1
  exact h1
/-- the world behind the five texts' building -/
structure Five (V w : World) (v1 v2 v3 v4 : Value) (b5 : Nat) : Prop where
  bel : Below V.heap.size V w
  blk : w.heap[b5]? = some (.cells #[.slice none 0 0, v1, v2, v3, v4] 23 (0, 0))
  rd : Rd w w.heap.size v4 (bA ++ [0])
theorem Five.end {V x : World} {v4 : Value} (hb : Below V.heap.size V x) (h : x.ownsRow V.heap.size 5 1 v4 34 (BS (bA ++ [0]))) (v1 v2 v3 : Value) :
    Five V (x.alloc (.cells #[.slice none 0 0, v1, v2, v3, v4] 23)) v1 v2 v3 v4 x.heap.size := by
  have hg : Below x.heap.size x (x.alloc (.cells #[.slice none 0 0, v1, v2, v3, v4] 23)) := (Below.refl _ _).alloc (Nat.le_refl _) _
  exact ⟨hb.alloc hb.size _, heap_alloc_new x _, (Rd.own h).below hg hg.size⟩
theorem app_grown {w : World} {B c : Nat} {A : Option Addr} {l m : List UInt8} {vx : Value} (h : w.ownsRow B 5 1 (.slice A l.length c) l.length (BS l)) (hx : Rd w w.heap.size vx m) (hl : l.length + m.length ≤ 20000) (hB : B ≤ w.heap.size) :
    ∃ A7 c7 w7, (Builtin.append_ #[23, 23] 23 #[.slice A l.length c, vx]).run Try.prog w = .ok (.slice A7 (l.length + m.length) c7) w7 ∧ w7.ownsRow B 5 1 (.slice A7 (l.length + m.length) c7) (l.length + m.length) (BS (l ++ m)) ∧ Below B w w7 ∧ w.grownBy w7 (Value.slice A l.length c).ownBlock := by
  obtain ⟨i0', hi, hz0, hz1, hz2⟩ := info_parts info_u8
  obtain ⟨v', w', hr, ho, hg⟩ := run_app (P := Try.prog) (w := w) B 23 23 5 i0' Try.underlying23 hi hz0 hz1 hz2 _ _ l m l.length h w.heap.size hx (by omega) hB
  have ho2 : w'.ownsRow B 5 1 v' (l ++ m).length (BS (l ++ m)) := by rw [List.length_append]; exact ho
  obtain ⟨A7, c7, hv⟩ := own_slice ho2
  rw [List.length_append] at hv
  subst hv
  exact ⟨A7, c7, w', hr, ho, (Below.refl _ _).grown hg hB fun p hp => (h.lt p hp).1, hg⟩
theorem alloc_size1 (w : World) (o : Obj) : (w.alloc o).heap.size = w.heap.size + 1 := Array.size_push _
theorem ord_a (V : World) {A1 : Option Addr} {c1 : Nat} (hA : Rd V V.heap.size (.slice A1 33 c1) bA) (v1 v2 v3 : Value) : ∃ A c w A' c' w',
    (Builtin.append_ #[23, 23] 23 #[.slice (some ⟨V.heap.size, 0, none⟩) 0 0, .slice A1 33 c1]).run Try.prog (V.alloc (.cells #[] 5)) = .ok (.slice A 33 c) w ∧
    (Builtin.append_ #[23, 23] 23 #[.slice A 33 c, .slice (some ⟨w.heap.size, 0, none⟩) 1 1]).run Try.prog (w.alloc (.cells #[.int .u8 0] 5)) = .ok (.slice A' 34 c') w' ∧
    Five V (w'.alloc (.cells #[.slice none 0 0, v1, v2, v3, .slice A' 34 c'] 23)) v1 v2 v3 (.slice A' 34 c') w'.heap.size := by
  have b0 : Below V.heap.size V (V.alloc (.cells #[] 5)) := (Below.refl _ _).alloc (Nat.le_refl _) _
  obtain ⟨A, c, w, r1, o1, b1⟩ := app_any (l := []) (m := bA) (lit_own V [] (by decide) (Nat.le_refl _)) (hA.below b0 b0.size) (by decide) b0.size
  have b2 : Below V.heap.size V w := b0.trans b1
  have b3 : Below w.heap.size w (w.alloc (.cells #[.int .u8 0] 5)) := (Below.refl _ _).alloc (Nat.le_refl _) _
  have o2 := row_same o1 fun n hn => b3.block n (o1.lt n hn).2
  have o3 := lit_own w [0] (by decide) b2.size
  have b4 := b2.trans (Joins.below_le b3 b2.size)
  obtain ⟨A', c', w', r2, o4, b5⟩ := app_any (l := bA) (m := [0]) o2 (Rd.own o3) (by decide) b4.size
  exact ⟨A, c, w, A', c', w', r1, r2, Five.end (b4.trans b5) o4 v1 v2 v3⟩
theorem ord_b (V : World) {A1 : Option Addr} {c1 : Nat} (hA : Rd V V.heap.size (.slice A1 33 c1) bA) (v1 v2 v3 : Value) : ∃ A c w A' c' w',
    (Builtin.append_ #[23, 23] 23 #[.slice (some ⟨V.heap.size, 0, none⟩) 0 0, .slice A1 33 c1]).run Try.prog ((V.alloc (.cells #[] 5)).alloc (.cells #[.int .u8 0] 5)) = .ok (.slice A 33 c) w ∧
    (Builtin.append_ #[23, 23] 23 #[.slice A 33 c, .slice (some ⟨(V.alloc (.cells #[] 5)).heap.size, 0, none⟩) 1 1]).run Try.prog w = .ok (.slice A' 34 c') w' ∧
    Five V (w'.alloc (.cells #[.slice none 0 0, v1, v2, v3, .slice A' 34 c'] 23)) v1 v2 v3 (.slice A' 34 c') w'.heap.size := by
  have b0 : Below V.heap.size V (V.alloc (.cells #[] 5)) := (Below.refl _ _).alloc (Nat.le_refl _) _
  have s0 : V.heap.size < (V.alloc (.cells #[] 5)).heap.size := by have := lt_of_heap (heap_alloc_new V (.cells #[] 5)); exact this
  obtain ⟨x, hx⟩ : ∃ x, x = V.alloc (.cells #[] 5) := ⟨_, rfl⟩
  have o0 := lit_own V [] (by decide) (Nat.le_refl V.heap.size)
  rw [show (Obj.cells (BS []).toArray 5) = .cells #[] 5 from rfl] at o0
  rw [← hx] at b0 s0 o0 ⊢
  clear hx
  have b3 : Below x.heap.size x (x.alloc (.cells #[.int .u8 0] 5)) := (Below.refl _ _).alloc (Nat.le_refl _) _
  have o2 := row_same o0 fun n hn => b3.block n (o0.lt n hn).2
  have o3 := lit_own x [0] (by decide) b0.size
  have b4 := b0.trans (Joins.below_le b3 b0.size)
  obtain ⟨A, c, w, r1, o1, b1, g1⟩ := app_grown (l := []) (m := bA) o2 (hA.below b4 b4.size) (by decide) b4.size
  have o5 := row_same o3 fun n hn => g1.block n (o3.lt n hn).2 (fun e => by
    have h1 : n = x.heap.size := by simpa [Value.ownBlock] using hn.symm
    have h2 : n = V.heap.size := by simpa [Value.ownBlock] using e
    omega)
  have b5 := b4.trans b1
  obtain ⟨A', c', w', r2, o4, b6⟩ := app_any (l := bA) (m := [0]) o1 (Rd.own o5) (by decide) b5.size
  exact ⟨A, c, w, A', c', w', r1, r2, Five.end (b5.trans b6) o4 v1 v2 v3⟩
theorem ord_c (V : World) {A1 : Option Addr} {c1 : Nat} (hA : Rd V V.heap.size (.slice A1 33 c1) bA) (v1 v2 v3 : Value) : ∃ A c w A' c' w',
    (Builtin.append_ #[23, 23] 23 #[.slice (some ⟨(V.alloc (.cells #[.int .u8 0] 5)).heap.size, 0, none⟩) 0 0, .slice A1 33 c1]).run Try.prog ((V.alloc (.cells #[.int .u8 0] 5)).alloc (.cells #[] 5)) = .ok (.slice A 33 c) w ∧
    (Builtin.append_ #[23, 23] 23 #[.slice A 33 c, .slice (some ⟨V.heap.size, 0, none⟩) 1 1]).run Try.prog w = .ok (.slice A' 34 c') w' ∧
    Five V (w'.alloc (.cells #[.slice none 0 0, v1, v2, v3, .slice A' 34 c'] 23)) v1 v2 v3 (.slice A' 34 c') w'.heap.size := by
  have b0 : Below V.heap.size V (V.alloc (.cells #[.int .u8 0] 5)) := (Below.refl _ _).alloc (Nat.le_refl _) _
  obtain ⟨x, hx⟩ : ∃ x, x = V.alloc (.cells #[.int .u8 0] 5) := ⟨_, rfl⟩
  have o0 := lit_own V [0] (by decide) (Nat.le_refl V.heap.size)
  rw [show (Obj.cells (BS [0]).toArray 5) = .cells #[.int .u8 0] 5 from rfl] at o0
  rw [← hx] at b0 o0 ⊢
  clear hx
  have b3 : Below x.heap.size x (x.alloc (.cells #[] 5)) := (Below.refl _ _).alloc (Nat.le_refl _) _
  have o2 := row_same o0 fun n hn => b3.block n (o0.lt n hn).2
  have o3 := lit_own x [] (by decide) (Nat.le_refl x.heap.size)
  have b4 := b0.trans (Joins.below_le b3 b0.size)
  obtain ⟨A, c, w, r1, o1, b1⟩ := app_any (l := []) (m := bA) o3 (hA.below b4 b4.size) (by decide) b3.size
  have o5 := row_same o2 fun n hn => b1.block n (o0.lt n hn).2
  have b5 := b4.trans (Joins.below_le b1 b0.size)
  obtain ⟨A', c', w', r2, o4, b6⟩ := app_any (l := bA) (m := [0]) (own_base o1 b0.size) (Rd.own o5) (by decide) b5.size
  exact ⟨A, c, w, A', c', w', r1, r2, Five.end (b5.trans b6) o4 v1 v2 v3⟩
set_option maxHeartbeats 8000000 in
set_option maxRecDepth 1000000 in
theorem names_walk (W : World) : Calls Try.prog 3 #[] W fun e w' => e = .returned (.bool true) ∧ Below W.heap.size W w' := by
  have hzz := zero_msg
  obtain ⟨Z, hZ⟩ : ∃ Z, Z = zC := ⟨_, rfl⟩
  rw [← hZ] at hzz
  have hZ33 : Z.size = 33 := by rw [hZ]; rfl
  have hZne : ¬ Z = #[] := fun e => by rw [e] at hZ33; cases hZ33
  have hZS : (Try.prog.info? 38).map (·.size) = some Z.size := by rw [hZ33]; exact msg_size
  have hZo : Z.all (·.oneCell') = true := by rw [hZ]; exact zC_one
  have CA : Hid (∀ W, Calls Try.prog 15 #[.agg ((Z.setIfInBounds 0 (.int .u8 8)).setIfInBounds 1 (.int .i64 2))] W fun e w' => EncA W w' bA 0 e) := Lib.hid fun W => by
    have := enc_mS (k := 8) (sh := 2) ⟨#[]⟩ (by omega) (by unfold I64; omega) (cs := (Z.setIfInBounds 0 (.int .u8 8)).setIfInBounds 1 (.int .i64 2)) (by rw [hZ]; rfl) W
    rw [oA] at this
    exact this
  have CB : Hid (∀ W, Calls Try.prog 15 #[.agg Z] W fun e w' => EncA W w' [] 1 e) := Lib.hid fun W => by
    have := enc_mS (k := 0) (sh := 0) ⟨#[]⟩ (by omega) (by unfold I64; omega) (cs := Z) (by rw [hZ]; rfl) W
    rw [oB] at this
    exact this
  have CC : Hid (∀ W, Calls Try.prog 15 #[.agg (Z.setIfInBounds 0 (.int .u8 20))] W fun e w' => EncA W w' [] 1 e) := Lib.hid fun W => by
    have := enc_mS (k := 20) (sh := 0) ⟨#[]⟩ (by omega) (by unfold I64; omega) (cs := Z.setIfInBounds 0 (.int .u8 20)) (by rw [hZ]; rfl) W
    rw [oC] at this
    exact this
  have CD : Hid (∀ W, Calls Try.prog 15 #[.agg ((Z.setIfInBounds 0 (.int .u8 1)).setIfInBounds 24 (.string (nT 8192)))] W fun e w' => EncA W w' [] 40 e) := Lib.hid fun W => by
    have := enc_mS (k := 1) (sh := 0) (nT 8192) (by omega) (by unfold I64; omega) (cs := (Z.setIfInBounds 0 (.int .u8 1)).setIfInBounds 24 (.string (nT 8192))) (by rw [hZ]; rfl) W
    rw [oD] at this
    exact this
  have CE : Hid (∃ l, ∀ W, Calls Try.prog 15 #[.agg (((Z.setIfInBounds 0 (.int .u8 8)).setIfInBounds 1 (.int .i64 2)).setIfInBounds 24 (.string (nT 8158)))] W fun e w' => EncA W w' l 0 e) := Lib.hid (by
    obtain ⟨l, hl⟩ := oE
    refine ⟨l, fun W => ?_⟩
    have := enc_mS (k := 8) (sh := 2) (nT 8158) (by omega) (by unfold I64; omega) (cs := ((Z.setIfInBounds 0 (.int .u8 8)).setIfInBounds 1 (.int .i64 2)).setIfInBounds 24 (.string (nT 8158))) (by rw [hZ]; rfl) W
    rw [hl] at this
    exact this)
  have CF : Hid (∀ W, Calls Try.prog 15 #[.agg (((Z.setIfInBounds 0 (.int .u8 8)).setIfInBounds 1 (.int .i64 2)).setIfInBounds 24 (.string (nT 8159)))] W fun e w' => EncA W w' [] 40 e) := Lib.hid fun W => by
    have := enc_mS (k := 8) (sh := 2) (nT 8159) (by omega) (by unfold I64; omega) (cs := ((Z.setIfInBounds 0 (.int .u8 8)).setIfInBounds 1 (.int .i64 2)).setIfInBounds 24 (.string (nT 8159))) (by rw [hZ]; rfl) W
    rw [oF] at this
    exact this
  have HZ := Lib.hid hZ
  have c0 := works_any W
  clear hZ
  go_enter Try.func3, Try.ntmps3
  go_wp2_with fail
  refine c0.mono ?_
  rintro e w1 ⟨rfl, hb1⟩
  clear c0
  have HB1 := Lib.hid hb1
  clear hb1
  go_wp2_with fail
  refine (CA.out w1).mono ?_
  intro e w2 hE
  obtain ⟨⟨A1, c1, rfl, ho1⟩, hb2⟩ := hE
  have HB2 := Lib.hid (HB1.out.trans (Joins.below_le hb2 HB1.out.size))
  have HO2 := Lib.hid (own_base ho1 HB1.out.size)
  rw [show bA.length = 33 from rfl]
  clear hb2 ho1 HB1
  go_wp2_with fail
  refine (CB.out w2).mono ?_
  intro e w3 hE
  obtain ⟨⟨A2, c2, rfl, -⟩, hb3⟩ := hE
  have HB3 := Lib.hid (HB2.out.trans (Joins.below_le hb3 HB2.out.size))
  have HO3 := Lib.hid (row_same HO2.out fun n hn => hb3.block n (HO2.out.lt n hn).2)
  rw [show ([] : List UInt8).length = 0 from rfl]
  clear hb3 HB2 HO2
  go_wp2_with fail
  refine (CC.out w3).mono ?_
  intro e w4 hE
  obtain ⟨⟨A3, c3, rfl, -⟩, hb4⟩ := hE
  have HB4 := Lib.hid (HB3.out.trans (Joins.below_le hb4 HB3.out.size))
  have HO4 := Lib.hid (row_same HO3.out fun n hn => hb4.block n (HO3.out.lt n hn).2)
  rw [show ([] : List UInt8).length = 0 from rfl]
  clear hb4 HB3 HO3
  obtain ⟨w5, hmk, hrd5, hb5⟩ := noughts_rd 8192 (by omega) w4
  have hmk5 : (Instr.makeSlice 23 (.int .i64 8192) (.int .i64 8192)).run Try.prog w4 = .ok (.slice (some ⟨w4.heap.size, 0, none⟩) 8192 8192) w5 := hmk
  have hcv : (convert 23 9 (.slice (some ⟨w4.heap.size, 0, none⟩) 8192 8192)).run Try.prog w5 = .ok (.string (nT 8192)) w5 := run_str (P := Try.prog) 23 5 9 Try.underlying23 Try.underlying5 Try.underlying9 hrd5
  have HB5 := Lib.hid (HB4.out.trans (Joins.below_le hb5 HB4.out.size))
  have HO5 := Lib.hid (row_same HO4.out fun n hn => hb5.block n (HO4.out.lt n hn).2)
  have cD := CD.out w5
  obtain ⟨N1, hN1⟩ : ∃ N, N = nT 8192 := ⟨_, rfl⟩
  rw [← hN1] at cD hcv
  clear hmk hrd5 hb5 HB4 HO4 hN1
  go_wp2_with fail
  refine cD.mono ?_
  intro e w6 hE
  obtain ⟨⟨A5, c5, rfl, -⟩, hb6⟩ := hE
  have HB6 := Lib.hid (HB5.out.trans (Joins.below_le hb6 HB5.out.size))
  have HO6 := Lib.hid (row_same HO5.out fun n hn => hb6.block n (HO5.out.lt n hn).2)
  rw [show ([] : List UInt8).length = 0 from rfl]
  clear hb6 HB5 HO5 cD hcv hmk5
  obtain ⟨w7, hmk, hrd7, hb7⟩ := noughts_rd 8158 (by omega) w6
  have hmk7 : (Instr.makeSlice 23 (.int .i64 8158) (.int .i64 8158)).run Try.prog w6 = .ok (.slice (some ⟨w6.heap.size, 0, none⟩) 8158 8158) w7 := hmk
  have hcv : (convert 23 9 (.slice (some ⟨w6.heap.size, 0, none⟩) 8158 8158)).run Try.prog w7 = .ok (.string (nT 8158)) w7 := run_str (P := Try.prog) 23 5 9 Try.underlying23 Try.underlying5 Try.underlying9 hrd7
  have HB7 := Lib.hid (HB6.out.trans (Joins.below_le hb7 HB6.out.size))
  have HO7 := Lib.hid (row_same HO6.out fun n hn => hb7.block n (HO6.out.lt n hn).2)
  obtain ⟨lE, cE'⟩ := CE.out
  have cE := cE' w7
  obtain ⟨N2, hN2⟩ : ∃ N, N = nT 8158 := ⟨_, rfl⟩
  rw [← hN2] at cE hcv
  clear hmk hrd7 hb7 HB6 HO6 hN2 cE'
  go_wp2_with fail
  refine cE.mono ?_
  intro e w8 hE
  obtain ⟨⟨A7, c7, rfl, -⟩, hb8⟩ := hE
  have HB8 := Lib.hid (HB7.out.trans (Joins.below_le hb8 HB7.out.size))
  have HO8 := Lib.hid (row_same HO7.out fun n hn => hb8.block n (HO7.out.lt n hn).2)
  clear hb8 HB7 HO7 cE hcv hmk7
  obtain ⟨w9, hmk, hrd9, hb9⟩ := noughts_rd 8159 (by omega) w8
  have hmk9 : (Instr.makeSlice 23 (.int .i64 8159) (.int .i64 8159)).run Try.prog w8 = .ok (.slice (some ⟨w8.heap.size, 0, none⟩) 8159 8159) w9 := hmk
  have hcv : (convert 23 9 (.slice (some ⟨w8.heap.size, 0, none⟩) 8159 8159)).run Try.prog w9 = .ok (.string (nT 8159)) w9 := run_str (P := Try.prog) 23 5 9 Try.underlying23 Try.underlying5 Try.underlying9 hrd9
  have HB9 := Lib.hid (HB8.out.trans (Joins.below_le hb9 HB8.out.size))
  have HO9 := Lib.hid (row_same HO8.out fun n hn => hb9.block n (HO8.out.lt n hn).2)
  have cF := CF.out w9
  obtain ⟨N3, hN3⟩ : ∃ N, N = nT 8159 := ⟨_, rfl⟩
  rw [← hN3] at cF hcv
  clear hmk hrd9 hb9 HB8 HO8 hN3
  go_wp2_with fail
  refine cF.mono ?_
  intro e w10 hE
  obtain ⟨⟨A9, c9, rfl, -⟩, hb10⟩ := hE
  have HB10 := Lib.hid (HB9.out.trans (Joins.below_le hb10 HB9.out.size))
  have HO10 := Lib.hid (row_same HO9.out fun n hn => hb10.block n (HO9.out.lt n hn).2)
  rw [show ([] : List UInt8).length = 0 from rfl]
  clear hb10 HB9 HO9 cF hcv hmk9
  go_upto_region 14 with fail
  -- a copy
  have hb_wa : Below w10.heap.size w10 (w10.alloc (.cells #[] 5)) := (Below.refl _ _).alloc (Nat.le_refl _) _
  obtain ⟨Awa, cwa, wa, hap, ho, hb⟩ := app_any (l := []) (m := bA) (lit_own w10 [] (by decide) (Nat.le_refl _)) ((Rd.own HO10.out).below hb_wa hb_wa.size) (by decide) hb_wa.size
  have hBwa : Below w10.heap.size w10 wa := hb_wa.trans hb
  have HAP : Hid ((Builtin.append_ #[23, 23] 23 #[.slice (some ⟨w10.heap.size, 0, none⟩) 0 0, .slice A1 33 c1]).run Try.prog (w10.alloc (.cells #[] 5)) = .ok (.slice Awa 33 cwa) wa) := Lib.hid hap
  obtain ⟨gwa, hg, hg1, hg2, -⟩ := own_bytes ho (by decide)
  subst hg
  have fwa : wa.frozen? ⟨gwa, 0, none⟩ = false := ho.frozenAt 0
  have ywa : wa.cell? ⟨gwa, 0, none⟩ = some (.int .u8 8) := by rw [ho.cellAt 0 (by decide)]; rfl
  obtain ⟨swa, hs⟩ : ∃ x, x = wa.setCell ⟨gwa, 0, none⟩ (.int .u8 0) := ⟨_, rfl⟩
  have hos : swa.ownsRow w10.heap.size 5 1 (.slice (some ⟨gwa, 0, none⟩) 33 cwa) 33 (BS (bA.set 0 0)) := by rw [hs]; exact set_own (l := bA) ho 0
  have hbs : Below w10.heap.size w10 swa := by rw [hs]; exact hBwa.setCell hg1 _
  have HSwa := Lib.hid hs
  have HVwa := Lib.hid hos
  have HLwa := Lib.hid hbs
  clear hb_wa hap ho hb hBwa hg1 hg2 hs hos hbs
  go_upto_region 15 with (at_builtin; go_must (refine Lib.wpList_append_run _ rfl (.tmp 101) (.tmp 102) 23 23 rfl _ _ rfl rfl _ _ HAP.out ?_))
  clear HAP
  go_upto_region 16 with fail
  rw [← HSwa.out]
  clear HSwa fwa ywa
  have HB11 := Lib.hid (HB10.out.trans (Joins.below_le HLwa.out HB10.out.size))
  have HO11 := Lib.hid (row_same HO10.out fun n hn => HLwa.out.block n (HO10.out.lt n hn).2)
  have HV11 := Lib.hid (own_base HVwa.out HB10.out.size)
  clear HLwa HVwa HB10 HO10
  -- a copy
  have hb_wb : Below swa.heap.size swa (swa.alloc (.cells #[] 5)) := (Below.refl _ _).alloc (Nat.le_refl _) _
  obtain ⟨Awb, cwb, wb, hap, ho, hb⟩ := app_any (l := []) (m := bA) (lit_own swa [] (by decide) (Nat.le_refl _)) ((Rd.own HO11.out).below hb_wb hb_wb.size) (by decide) hb_wb.size
  have hBwb : Below swa.heap.size swa wb := hb_wb.trans hb
  have HAP : Hid ((Builtin.append_ #[23, 23] 23 #[.slice (some ⟨swa.heap.size, 0, none⟩) 0 0, .slice A1 33 c1]).run Try.prog (swa.alloc (.cells #[] 5)) = .ok (.slice Awb 33 cwb) wb) := Lib.hid hap
  obtain ⟨gwb, hg, hg1, hg2, -⟩ := own_bytes ho (by decide)
  subst hg
  have fwb : wb.frozen? ⟨gwb, 0, none⟩ = false := ho.frozenAt 0
  have ywb : wb.cell? ⟨gwb, 0, none⟩ = some (.int .u8 8) := by rw [ho.cellAt 0 (by decide)]; rfl
  obtain ⟨swb, hs⟩ : ∃ x, x = wb.setCell ⟨gwb, 0, none⟩ (.int .u8 20) := ⟨_, rfl⟩
  have hos : swb.ownsRow swa.heap.size 5 1 (.slice (some ⟨gwb, 0, none⟩) 33 cwb) 33 (BS (bA.set 0 20)) := by rw [hs]; exact set_own (l := bA) ho 20
  have hbs : Below swa.heap.size swa swb := by rw [hs]; exact hBwb.setCell hg1 _
  have HSwb := Lib.hid hs
  have HVwb := Lib.hid hos
  have HLwb := Lib.hid hbs
  clear hb_wb hap ho hb hBwb hg1 hg2 hs hos hbs
  go_upto_region 17 with (at_builtin; go_must (refine Lib.wpList_append_run _ rfl (.tmp 106) (.tmp 107) 23 23 rfl _ _ rfl rfl _ _ HAP.out ?_))
  clear HAP
  go_upto_region 18 with fail
  rw [← HSwb.out]
  clear HSwb fwb ywb
  have HB12 := Lib.hid (HB11.out.trans (Joins.below_le HLwb.out HB11.out.size))
  have HO12 := Lib.hid (row_same HO11.out fun n hn => HLwb.out.block n (HO11.out.lt n hn).2)
  have HV12 := Lib.hid (row_same HV11.out fun n hn => HLwb.out.block n (HV11.out.lt n hn).2)
  have HU12 := Lib.hid (own_base HVwb.out HB11.out.size)
  clear HLwb HVwb HB11 HO11 HV11
  have e32 : IntKind.i64.wrap 32 = 32 := by decide
  have q32 : (32 : Int) ≤ (c1 : Int) := by
    obtain ⟨A, c, e, q1, -⟩ := Rd.own HO12.out
    injection e with e1 e2 e3
    have h33 : bA.length = 33 := rfl
    omega
  obtain ⟨V, hV⟩ : ∃ V, V = swb.drew := ⟨_, rfl⟩
  have hbV : Below swb.heap.size swb V := by rw [hV]; exact (Below.refl _ _).drew
  have HAV : Hid (Rd V V.heap.size (.slice A1 33 c1) bA) := Lib.hid ((Rd.own HO12.out).below hbV hbV.size)
  have HVV : Hid (Rd V V.heap.size (.slice (some ⟨gwa, 0, none⟩) 33 cwa) (bA.set 0 0)) := Lib.hid ((Rd.own (l := bA.set 0 0) HV12.out).below hbV hbV.size)
  have HUV : Hid (Rd V V.heap.size (.slice (some ⟨gwb, 0, none⟩) 33 cwb) (bA.set 0 20)) := Lib.hid ((Rd.own (l := bA.set 0 20) HU12.out).below hbV hbV.size)
  have HBV := Lib.hid (HB12.out.trans (Joins.below_le hbV HB12.out.size))
  have HEV := Lib.hid hV
  clear hV hbV HB12 HO12 HV12 HU12
  obtain ⟨Aa, ca, wa, Aa', ca', wa', ra1, ra2, fa⟩ := ord_a V HAV.out (.slice (some ⟨gwa, 0, none⟩) 33 cwa) (.slice (some ⟨gwb, 0, none⟩) 33 cwb) (.slice A1 32 c1)
  obtain ⟨Ab, cb, wb, Ab', cb', wb', rb1, rb2, fb⟩ := ord_b V HAV.out (.slice (some ⟨gwa, 0, none⟩) 33 cwa) (.slice (some ⟨gwb, 0, none⟩) 33 cwb) (.slice A1 32 c1)
  obtain ⟨Ac, cc, wc, Ac', cc', wc', rc1, rc2, fc⟩ := ord_c V HAV.out (.slice (some ⟨gwa, 0, none⟩) 33 cwa) (.slice (some ⟨gwb, 0, none⟩) 33 cwb) (.slice A1 32 c1)
  have ad : ∀ (w : World) (o : Obj), w.drew.alloc o = (w.alloc o).drew := fun _ _ => rfl
  have sd : ∀ w : World, w.drew.heap.size = w.heap.size := fun _ => rfl
  rw [HEV.out] at ra1 rb1 rb2 rc1 rc2
  simp only [ad, sd, alloc_size1] at ra1 rb1 rb2 rc1 rc2
  have RA1 := Lib.hid ra1
  have RA2 := Lib.hid ra2
  have RB1 := Lib.hid rb1
  have RB2 := Lib.hid rb2
  have RC1 := Lib.hid rc1
  have RC2 := Lib.hid rc2
  have FA := Lib.hid fa
  have FB := Lib.hid fb
  have FC := Lib.hid fc
  clear ra1 ra2 rb1 rb2 rc1 rc2 fa fb fc
  apply cut_goal
  case h =>
    intro key
    go_region_law (first
      | (refine step_app rfl (.tmp 118) (.tmp 119) 23 rfl (.slice (some ⟨swb.heap.size, 0, none⟩) 0 0) (.slice A1 33 c1) rfl rfl (by with_reducible exact RA1.out) ?_)
      | (refine step_app rfl (.tmp 118) (.tmp 119) 23 rfl (.slice (some ⟨swb.heap.size, 0, none⟩) 0 0) (.slice A1 33 c1) rfl rfl (by with_reducible exact RB1.out) ?_)
      | (refine step_app rfl (.tmp 118) (.tmp 119) 23 rfl (.slice (some ⟨swb.heap.size + 1, 0, none⟩) 0 0) (.slice A1 33 c1) rfl rfl (by with_reducible exact RC1.out) ?_)
      | (refine step_app rfl (.tmp 120) (.tmp 121) 23 rfl (.slice Aa 33 ca) (.slice (some ⟨wa.heap.size, 0, none⟩) 1 1) rfl rfl (by with_reducible exact RA2.out) ?_)
      | (refine step_app rfl (.tmp 120) (.tmp 121) 23 rfl (.slice Ab 33 cb) (.slice (some ⟨swb.heap.size + 1, 0, none⟩) 1 1) rfl rfl (by with_reducible exact RB2.out) ?_)
      | (refine step_app rfl (.tmp 120) (.tmp 121) 23 rfl (.slice Ac 33 cc) (.slice (some ⟨swb.heap.size, 0, none⟩) 1 1) rfl rfl (by with_reducible exact RC2.out) ?_))
    · have F := FA
      generalize wa'.alloc (.cells #[.slice none 0 0, .slice (some ⟨gwa, 0, none⟩) 33 cwa, .slice (some ⟨gwb, 0, none⟩) 33 cwb, .slice A1 32 c1, .slice Aa' 34 ca'] 23) = y at F ⊢
      generalize wa'.heap.size = b5 at F ⊢
      generalize Aa' = Ay at F ⊢
      generalize ca' = cy at F ⊢
      generalize Aa = Ax
      generalize ca = cx
      generalize swb.heap.size = g118
      generalize wa.heap.size = g121
      revert F; revert g121; revert g118; revert b5; revert y; revert cy; revert Ay; revert cx; revert Ax
      exact key
    · have F := FB
      generalize wb'.alloc (.cells #[.slice none 0 0, .slice (some ⟨gwa, 0, none⟩) 33 cwa, .slice (some ⟨gwb, 0, none⟩) 33 cwb, .slice A1 32 c1, .slice Ab' 34 cb'] 23) = y at F ⊢
      generalize wb'.heap.size = b5 at F ⊢
      generalize Ab' = Ay at F ⊢
      generalize cb' = cy at F ⊢
      generalize Ab = Ax
      generalize cb = cx
      generalize swb.heap.size + 1 = g121
      generalize swb.heap.size = g118
      revert F; revert g121; revert g118; revert b5; revert y; revert cy; revert Ay; revert cx; revert Ax
      exact key
    · have F := FC
      generalize wc'.alloc (.cells #[.slice none 0 0, .slice (some ⟨gwa, 0, none⟩) 33 cwa, .slice (some ⟨gwb, 0, none⟩) 33 cwb, .slice A1 32 c1, .slice Ac' 34 cc'] 23) = y at F ⊢
      generalize wc'.heap.size = b5 at F ⊢
      generalize Ac' = Ay at F ⊢
      generalize cc' = cy at F ⊢
      generalize Ac = Ax
      generalize cc = cx
      generalize swb.heap.size + 1 = g118
      generalize swb.heap.size = g121
      revert F; revert g121; revert g118; revert b5; revert y; revert cy; revert Ay; revert cx; revert Ax
      exact key
  clear RA1 RA2 RB1 RB2 RC1 RC2 FA FB FC
  intro Ax cx Ay cy y b5 g118 g121 F
  have HBY : Hid (Below W.heap.size W y) := Lib.hid (HBV.out.trans (Joins.below_le F.out.bel HBV.out.size))
  have HK := Lib.hid F.out.blk
  have HX : Hid (∀ i : Nat, i < 5 → ∃ v l, (#[.slice none 0 0, .slice (some ⟨gwa, 0, none⟩) 33 cwa, .slice (some ⟨gwb, 0, none⟩) 33 cwb, .slice A1 32 c1, .slice Ay 34 cy] : Array Value)[i]? = some v ∧ Rd y y.heap.size v l ∧ Bad l) := Lib.hid fun i hi => by
    match i, hi with
    | 0, _ => exact ⟨_, [], rfl, Rd.nil _ _, bad_nil⟩
    | 1, _ => exact ⟨_, bA.set 0 0, rfl, HVV.out.below F.out.bel F.out.bel.size, bad_head 0 _ (by decide) (.inl rfl)⟩
    | 2, _ => exact ⟨_, bA.set 0 20, rfl, HUV.out.below F.out.bel F.out.bel.size, bad_head 20 _ (by decide) (.inr rfl)⟩
    | 3, _ => exact ⟨_, bA.take 32, rfl, Rd.takeAny (l := bA) (n := 32) (HAV.out.below F.out.bel F.out.bel.size) (by decide), bad_cut⟩
    | 4, _ => exact ⟨_, bA ++ [0], rfl, F.out.rd, bad_more⟩
    | n + 5, h => exact absurd h (by omega)
  clear F HAV HVV HUV HBV HEV
  go_wp2_with fail
  go_simp
  go_loopw [17, 18, 19, 125] (fun _ _ _ s125 wr => ∃ i : Nat, s125 = .int .i64 (i : Int) ∧ i ≤ 5 ∧ Hid (Below y.heap.size y wr)) (fun _ _ _ s125 _ => 5 - (intOf s125).toNat)
  case atStart => exact ⟨0, rfl, Nat.zero_le _, Lib.hid (Below.refl _ _)⟩
  case round =>
    obtain ⟨i, rfl, hi, hR⟩ := hrel
    obtain ⟨wz, hwz⟩ : ∃ wz : World, wz = wr := ⟨_, rfl⟩
    subst hwz
    by_cases hi5 : i < 5
    · have a1 : (i : Int) < 5 := by omega
      have a0 : (0 : Int) ≤ (i : Int) := by omega
      obtain ⟨v, l, hv, hrd, hbad⟩ := HX.out i hi5
      have hcell : wz.cell? ⟨b5, i, none⟩ = some v := by
        rw [(blk_cells ((hR.out.block b5 (lt_of_heap HK.out)).trans HK.out)).1 i]
        exact hv
      have cD := decode_any l v wz (hrd.below hR.out hR.out.size) (by have := hbad.1; omega)
      have HBAD := Lib.hid hbad
      clear hv hrd hbad
      go_wp2_with fail
      refine cD.mono ?_
      intro e w5 hd
      clear cD hcell
      obtain rfl := HBAD.out.2 _ _ _ hd
      rw [← HZ.out]
      obtain ⟨w6, hw6⟩ : ∃ x, x = w5.alloc (.cells Z 38) := ⟨_, rfl⟩
      have hb6 : Below w5.heap.size w5 w6 := by rw [hw6]; exact (Below.refl _ _).alloc (Nat.le_refl _) _
      obtain ⟨q, hq⟩ : ∃ q, q = w5.heap.size := ⟨_, rfl⟩
      have hq6 : w6.heap[q]? = some (.cells Z 38 (0, 0)) := by rw [hw6, hq]; exact heap_alloc_new w5 _
      have HB5 := hR.out.trans (Joins.below_le hd.bel hR.out.size)
      have HF := Lib.hid (HB5.trans (Joins.below_le (below_setRow hb6 (Nat.le_of_eq hq.symm) Z) HB5.size))
      have HW6 := Lib.hid (And.intro hw6 hq)
      clear hw6 hq hb6 hd HB5 HBAD hR
      go_wp2_with (rw [← HW6.out.1, ← HW6.out.2]; refine wpList_store_row rfl 38 (.tmp 18) (.tmp 132) rfl q Z rfl rfl 38 Z hq6 hZS rfl hZo ?_)
      exact ⟨⟨i + 1, by go_num, by omega, HF⟩, by simp [intOf]; omega⟩
    · have a1 : ¬ (i : Int) < 5 := by omega
      go_wp2_with fail
      go_ret
      exact ⟨rfl, HBY.out.trans (Joins.below_le hR.out HBY.out.size)⟩
end Go.Proofs.Ytblbcoknefgcaaa
