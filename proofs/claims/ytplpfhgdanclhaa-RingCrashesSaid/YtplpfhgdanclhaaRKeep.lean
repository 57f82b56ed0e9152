/-
  A ring and a crash wherever, plain; a list that grows beside an elder one; what RingCrashes keeps in memory; the law's 'begins'. No statement is proved here. No condition.
-/
import Derived.Test.YtplpfhgdanclhaaRBack
import Derived.ArgAppend
namespace Go.Proofs.Ytplpfhgdanclhaa
open Go.RowKit


/-- a ring that works, on a disk that may have a fuse -/
structure Live (D : DS) (R : RG) (ps : List Pc) (s : Nat) : Prop where
  rung : Rung D R.first R.count R.base ps s
  last : R.last = R.base + ps.length
  top : R.top = R.last
  ended : Ended ps

theorem Live.append {D : DS} {R : RG} {ps : List Pc} {s : Nat} (h : Live D R ps s) (rec : List UInt8) :
    (∃ x : Int, x ≠ 0 ∧ x ≠ 20 ∧ appendOf D R rec = (x, D, R)) ∨
    (∃ D' R', appendOf D R rec = (0, D', R') ∧ Live D' R' (ps ++ cut (R.last + 1) rec) s ∧ R'.first = R.first ∧ R'.count = R.count ∧ R'.base = R.base ∧ R'.top ≤ 4611686018427387904) ∨
    (∃ D', appendOf D R rec = (20, D', R) ∧ D'.dead = true ∧ Left D' R.first R.count R.base (ps ++ cut (R.last + 1) rec) s) := by
  by_cases hr : refuseOf D.dead R (pieces rec.length) = 0
  · obtain ⟨h1, h2, h3, h4, h5⟩ := refuse_ok hr
    have hl : ps.length + pieces rec.length ≤ R.count := by
      unfold RG.room' at h4
      rw [if_neg h3] at h4
      have := h.last
      have := h.rung.len
      omega
    have e : appendOf D R rec = if (D.putAll R.first R.count (cut (R.last + 1) rec)).1 ≠ 0 then ((D.putAll R.first R.count (cut (R.last + 1) rec)).1, (D.putAll R.first R.count (cut (R.last + 1) rec)).2, R)
        else (0, (D.putAll R.first R.count (cut (R.last + 1) rec)).2, { R with last := R.last + pieces rec.length, top := R.last + pieces rec.length }) := by
      unfold appendOf
      rw [hr, if_neg (by simp)]
    rcases h.rung.putAll (cut (R.last + 1) rec) (fun i p hp => cut_fit (n := R.last + 1) (base := R.base) (len := ps.length) (by have := h.last; omega) (by omega) i p hp) (by rw [cut_length]; exact hl) with ⟨D', hp, hr'⟩ | ⟨D', hp, hd, hl'⟩
    · right; left
      rw [hp, if_neg (by simp)] at e
      refine ⟨D', _, e, ⟨hr', ?_, rfl, ended_app (cut_ne _ _) (cut_ended _ _)⟩, rfl, rfl, rfl, h5⟩
      show R.last + pieces rec.length = R.base + _
      rw [List.length_append, cut_length, h.last, Nat.add_assoc]
    · right; right
      rw [hp, if_pos (show (20 : Int) ≠ 0 by decide)] at e
      exact ⟨D', e, hd, hl'⟩
  · left
    refine ⟨refuseOf D.dead R (pieces rec.length), hr, ?_, by unfold appendOf; rw [if_pos hr]⟩
    unfold refuseOf
    rw [h.rung.live, if_neg Bool.false_ne_true]
    split
    · decide
    · split
      · decide
      · split
        · decide
        · split <;> decide
theorem Live.sync {D : DS} {R : RG} {ps : List Pc} {s : Nat} (h : Live D R ps s) :
    (∃ D', D.flush = (0, D') ∧ Live D' R ps ps.length) ∨ (∃ D', D.flush = (20, D') ∧ D'.dead = true ∧ Left D' R.first R.count R.base ps s) := by
  rcases h.rung.flush with ⟨D', h1, h2⟩ | h1
  · exact .inl ⟨D', h1, h2, h.last, h.top, h.ended⟩
  · exact .inr h1
theorem Live.lit {D : DS} {R : RG} {ps : List Pc} {s : Nat} (h : Live D R ps s) (k : Nat) (keep : List Bool) : ∃ D', D.lit (k : Int) keep = (0, D') ∧ Live D' R ps s ∧ D'.lasts = D.lasts := by
  unfold DS.lit
  rw [h.rung.live, if_neg Bool.false_ne_true, if_neg (by omega)]
  exact ⟨_, rfl, ⟨⟨rfl, h.rung.pos, h.rung.room, h.rung.sure, h.rung.len, h.rung.waits, h.rung.nums, h.rung.half⟩, h.last, h.top, h.ended⟩, rfl⟩
theorem Live.crashed {D : DS} {R : RG} {ps : List Pc} {s : Nat} (h : Live D R ps s) (keep : List Bool) : ∃ D', D.crashed keep = (0, D') ∧ D'.dead = true ∧ Left D' R.first R.count R.base ps s := by
  unfold DS.crashed
  rw [h.rung.live, if_neg Bool.false_ne_true]
  exact ⟨_, rfl, rfl, h.rung.crash keep⟩
theorem Live.fine {D : DS} {R : RG} {ps : List Pc} {s : Nat} (h : Live D R ps s) (hr : R.first + R.count ≤ 65536) (hm : R.top ≤ 4611686018427387904) : R.fine := by
  have h1 := h.last
  have h2 := h.top
  have h3 := h.rung.len
  exact ⟨h.rung.pos, hr, by omega, by omega, by omega, hm⟩

/-- opened anew behind a crash: between what was sure and all -/
theorem Left.again {D : DS} {first count base : Nat} {ps : List Pc} {s : Nat} (h : Left D first count base ps s) : whole [] (ps.take s) <+: inRing D.again first count base ∧ inRing D.again first count base <+: whole [] ps := h.told
/-- a ring that is opened on a disk on which nothing waits, and is not torn -/
theorem live_open {D : DS} {first count base : Nat} (hd : D.dead = false) (hw : D.waits = []) (hc : 1 ≤ count) (hr : first + count ≤ D.lasts.length) (h : ¬ (opened D first count base).last < (opened D first count base).top) :
    ∃ ps, Live D (opened D first count base) ps ps.length ∧ whole [] ps = inRing D first count base := by
  have hs := secs_length hr
  have e : seen D first count = secs D.lasts first count := by unfold seen; rw [hw]; rfl
  have et : topTo (secs D.lasts first count) base count = topIn (secs D.lasts first count) base := by
    have := topTo_all (secs D.lasts first count) base
    rw [hs] at this
    exact this
  unfold opened at h
  unfold opened inRing
  rw [e, et] at h ⊢
  have h' : topIn (secs D.lasts first count) base ≤ lastIn base (run (secs D.lasts first count) count (base + 1)) := Nat.le_of_not_lt h
  obtain ⟨h1, h2, h3, h4⟩ := open_rung hd hw (by omega) hr h'
  exact ⟨_, ⟨h1, h3, h4.trans h3.symm, h2⟩, rfl⟩
/-- and emptied -/
theorem live_empty {D : DS} {first count base : Nat} (hd : D.dead = false) (hw : D.waits = []) (hc : 1 ≤ count) (hr : first + count ≤ D.lasts.length) :
    Live D { opened D first count base with base := (opened D first count base).top, last := (opened D first count base).top } [] 0 := by
  have hs := secs_length hr
  have e : seen D first count = secs D.lasts first count := by unfold seen; rw [hw]; rfl
  have et : topTo (secs D.lasts first count) base count = topIn (secs D.lasts first count) base := by
    have := topTo_all (secs D.lasts first count) base
    rw [hs] at this
    exact this
  unfold opened
  rw [e, et]
  have hrg := empty_rung (D := D) (first := first) (count := count) base hd hw (by omega) hr
  exact ⟨hrg, rfl, rfl, ended_nil⟩

theorem fit_again {D : DS} {k : Nat} (h : Fit D k) : Fit D.again 0 := ⟨⟨fun _ hx => absurd hx List.not_mem_nil, h.ok.2⟩, Nat.le_refl _, Nat.le_refl _, h.lasts, Nat.zero_le _⟩
theorem fit_lit {D : DS} {k : Nat} (h : Fit D k) (z : Int) {keep : List Bool} (hk : keep.length ≤ 140737488355328) : Fit (D.lit z keep).2 k := by
  unfold DS.lit
  split
  · exact h
  · split
    · exact h
    · exact ⟨h.ok, h.done, h.waits, h.lasts, hk⟩
theorem fit_flush {D : DS} {k : Nat} (h : Fit D k) : Fit D.flush.2 (k + 1) := by
  unfold DS.flush
  split
  · exact h.mono (by omega)
  · split
    · exact (h.crash _).mono (by omega)
    · exact h.tick.flushed
theorem fit_crashed {D : DS} {k : Nat} (h : Fit D k) (keep : List Bool) : Fit (D.crashed keep).2 k := by
  unfold DS.crashed
  split
  · exact h
  · exact h.crash _
theorem flush_len (D : DS) : D.flush.2.lasts.length = D.lasts.length := by
  unfold DS.flush
  split
  · rfl
  · split
    · exact setAll_length _ _
    · exact setAll_length _ _
theorem crashed_len (D : DS) (keep : List Bool) : (D.crashed keep).2.lasts.length = D.lasts.length := by
  unfold DS.crashed
  split
  · rfl
  · exact setAll_length _ _
theorem prefix_take {α : Type} {l m : List α} (h : l <+: m) : l = m.take l.length := by
  obtain ⟨t, rfl⟩ := h
  rw [List.take_left]


section
variable {P : Program} {w : World}
theorem run_appOn (base : Nat) (t ty e : TypeId) (i : TypeInfo) (z : Value) (size bytes : Nat) (ht : P.underlying t = some (.slice e)) (hi : P.info? e = some i) (hz : i.zero = some z) (hsize : i.size = size) (hby : i.bytes = bytes) (hzs : z.cells.size = size) (hsz : 0 < size)
    (v x : Value) (n : Nat) (xs : List Value) (hown : w.ownsRow base e size v n xs) (m : Nat) (ys : List Value) (hx : RowAt w x m size ys) (h1 : ∀ u ∈ ys, u.oneCell' = true) (h63 : n + m ≤ maxLen) (hbytes : (n + m) * bytes ≤ 140737488355328) (hbase : base ≤ w.heap.size) :
    ∃ A c w', (Builtin.append_ #[t, t] ty #[v, x]).run P w = .ok (.slice A (n + m) c) w' ∧ w'.ownsRow base e size (.slice A (n + m) c) (n + m) (xs ++ ys) ∧ w.grownBy w' v.ownBlock ∧ ((Value.slice A (n + m) c).ownBlock = v.ownBlock ∨ (Value.slice A (n + m) c).ownBlock = some w.heap.size ∧ w.grownBy w' none) := by
  obtain ⟨A', c', w', hr, k2, k3, k4⟩ := run_appAt (P := P) (w := w) base t ty e i z size bytes ht hi hz hsize hby hzs hsz v x n xs hown m ys hx h1 h63 hbytes hbase
  refine ⟨A', c', w', hr, k2, k3, ?_⟩
  rcases k4 with k4 | k4
  · exact .inl k4
  · right
    refine ⟨k4, ?_⟩
    rcases hown.2 with ⟨rfl, rfl⟩ | ⟨g, cap, cur, rfl, hbg, hg, hnc, hcm, hcs, htake⟩
    · exact k3
    · have hgl : g < w.heap.size := (Array.getElem?_eq_some_iff.1 hg).1
      obtain ⟨Ax, cx, rfl, hl, hmc, hcm', h3, h4⟩ := hx
      have no : ∀ (n' c'' : Nat) (w'' : World), (Builtin.append_ #[t, t] ty #[.slice (some ⟨g, 0, none⟩) n cap, .slice Ax m cx]).run P w = .ok (.slice (some ⟨g, 0, none⟩) n' c'') w'' → False := fun n' c'' w'' h => by
        rw [hr] at h
        injection h with h _
        injection h with h _ _
        subst h
        have : g = w.heap.size := Option.some.inj k4
        omega
      cases Ax with
      | none =>
        have hc := h3 rfl
        have hm : m = 0 := by omega
        subst hm
        subst hc
        exact absurd (run_append_owned_none w base t ty e i size ht hi (.slice (some ⟨g, 0, none⟩) n cap) n xs hown) (fun h => no _ _ _ h)
      | some ad =>
        have hnews : ∀ j u, ys[j]? = some u → w.cell? (ad.add j) = some u := fun j u hj => by
          obtain ⟨b, o, hA, hc⟩ := h4 (by
            rcases Nat.eq_zero_or_pos m with h0 | h0
            · subst h0
              have : ys = [] := List.eq_nil_of_length_eq_zero (by omega)
              subst this
              simp at hj
            · exact h0)
          injection hA with hA
          subst hA
          rw [plus_zero]
          exact hc j u hj
        by_cases hroom : n + m ≤ cap
        · subst hsize
          have hfit : n * i.size + ys.length ≤ cur.size := by rw [hl, hcs, ← Nat.add_mul]; exact Nat.mul_le_mul_right _ hroom
          exact absurd (run_append_room (P := P) w t ty e i ht hi g n cap cur hg ad m cx ys hl hnews h1 hroom hfit) (fun h => no _ _ _ h)
        · have holds : ∀ j u, xs[j]? = some u → w.cell? ((⟨g, 0, none⟩ : Addr).add j) = some u := hown.cells (g := g) rfl
          obtain ⟨v2, w2, hr2, -, hg2⟩ := run_append_arg_grows (P := P) w t ty e i z size bytes ht hi hz hsize hby hzs hsz ⟨g, 0, none⟩ n cap xs hown.1 holds ad m cx ys hl hnews (by omega) h63 hbytes
          rw [hr] at hr2
          injection hr2 with _ hr2
          subst hr2
          exact hg2
theorem wpList_appOn {ops : Array Oper} {rest : List Oper} {o : Oper} {a : Act} {Q : Exit → Act → World → Prop} (hgd : o.guard = none) (s x : Operand) (t : TypeId)
    (ho : o.op = .call { callee := .builtin .append, args := #[s, x], argTypes := #[t, t] })
    (base : Nat) (e : TypeId) (i : TypeInfo) (z : Value) (size bytes : Nat) (ht : P.underlying t = some (.slice e)) (hi : P.info? e = some i) (hz : i.zero = some z) (hsize : i.size = size) (hby : i.bytes = bytes) (hzs : z.cells.size = size) (hsz : 0 < size)
    (v y : Value) (n : Nat) (xs : List Value) (m : Nat) (ys : List Value) (hs : a.eval s = v) (hy : a.eval x = y) (hown : w.ownsRow base e size v n xs) (hx : RowAt w y m size ys) (h1 : ∀ u ∈ ys, u.oneCell' = true)
    (h63 : n + m ≤ maxLen) (hbytes : (n + m) * bytes ≤ 140737488355328) (hbase : base ≤ w.heap.size)
    (h : ∀ A c w', w'.ownsRow base e size (.slice A (n + m) c) (n + m) (xs ++ ys) → w.grownBy w' v.ownBlock → ((Value.slice A (n + m) c).ownBlock = v.ownBlock ∨ (Value.slice A (n + m) c).ownBlock = some w.heap.size ∧ w.grownBy w' none) → wpList P ops Q rest (a.put o.dst (.slice A (n + m) c)) w') : wpList P ops Q (o :: rest) a w := by
  refine wpList_plain hgd fun K hK => ?_
  obtain ⟨A, c, w', hr, h2, h3, h4⟩ := run_appOn (P := P) (w := w) base t o.type e i z size bytes ht hi hz hsize hby hzs hsz v y n xs hown m ys hx h1 h63 hbytes hbase
  unfold Oper.wp execOp
  simp only [ho, resolve, invoke, builtin, Sem.run_bind, Sem.run_pure, Result.andThen_ok, List.map_toArray, List.map_cons, List.map_nil, hs, hy, hr]
  exact hK _ _ (h A c w' h2 h3 h4)
end

/-- an elder list lies apart of the growing one's row, or is its beginning -/
def Elder (v : Value) (n : Nat) (s : Value) (k : Nat) : Prop := k ≠ 0 → ∀ (A : Option Addr) (m c : Nat), s = .slice A m c → ∀ b o, A = some ⟨b, o, none⟩ → v.ownBlock = some b → o = 0 ∧ k ≤ n
theorem Elder.apart {v : Value} {n k : Nat} {s : Value} {w : World} {M N : Nat → Prop} {Ls : List (List UInt8)} (h : LLN w M N s Ls) (hk : k = Ls.length) (hM : ∀ b, M b → v.ownBlock ≠ some b) : Elder v n s k := by
  subst hk
  intro h0 A m c hs b o hA hv
  obtain ⟨xs, -, A', c', hs', -, -, -, h5⟩ := h
  obtain ⟨b', o', hA', hb', -⟩ := h5 (fun e => h0 (by rw [e]; rfl))
  rw [hs'] at hs
  injection hs with e1 _ _
  rw [← e1, hA'] at hA
  have hA := Option.some.inj hA
  injection hA with e2 _ _
  subst e2
  exact absurd hv (hM _ hb')
/-- the growing list grows: the elder one reads as it did -/
theorem LLN.elder {w w' : World} {base n m : Nat} {v v' : Value} {xs ys : List Value} {s : Value} {Ls : List (List UInt8)} {M N : Nat → Prop} (h : LLN w M N s Ls) (he : Elder v n s Ls.length)
    (ho : w.ownsRow base 39 1 v n xs) (ho' : w'.ownsRow base 39 1 v' (n + m) (xs ++ ys)) (hg : w.grownBy w' v.ownBlock) (hat : v'.ownBlock = v.ownBlock ∨ v'.ownBlock = some w.heap.size ∧ w.grownBy w' none) (hN : ∀ b, N b → v.ownBlock ≠ some b) :
    LLN w' M N s Ls ∧ Elder v' (n + m) s Ls.length := by
  obtain ⟨ss, h1, A, c, rfl, h2, h3, h4, h5⟩ := h
  have hsz := hg.size
  refine ⟨⟨ss, h1.kept (fun _ h _ => h) hsz (fun b hb hl => hg.block b hl (fun e => hN b hb e.symm)), A, c, rfl, h2, h3, h4, fun hn => ?_⟩, ?_⟩
  · obtain ⟨b, o, rfl, hb, hl, hc⟩ := h5 hn
    refine ⟨b, o, rfl, hb, by omega, fun j u hj => ?_⟩
    have old := hc j u hj
    have hjl : j < Ls.length := by rw [← h1.1]; exact (List.getElem?_eq_some_iff.1 hj).1
    have same : w'.heap[b]? = w.heap[b]? → w'.cell? ⟨b, o + j, none⟩ = some u := fun e => (World.cell?_of_block (a := ⟨b, o + j, none⟩) e).trans old
    by_cases hv : v.ownBlock = some b
    · rcases hat with hat | ⟨-, hat⟩
      · obtain ⟨rfl, hk⟩ := he (fun e => hn (List.eq_nil_of_length_eq_zero e)) _ _ _ rfl b o rfl hv
        obtain ⟨g, cap, rfl, -, -⟩ := ho.form (by omega)
        obtain ⟨g', cap', rfl, -, -⟩ := ho'.form (by omega)
        have e1 : g = b := Option.some.inj hv
        have e2 : g' = g := Option.some.inj hat
        subst e2
        subst e1
        have hx := ho.1
        rw [Nat.zero_add] at old ⊢
        rw [ho.cellAt j (by omega)] at old
        rw [ho'.cellAt j (by omega), List.getElem?_append_left (by omega)]
        exact old
      · exact same (hat.block b hl (fun e => by cases e))
    · exact same (hg.block b hl (fun e => hv e.symm))
  · intro h0 A' m' c' hs b o hA hv
    injection hs with e1 _ _
    subst e1
    obtain ⟨b', o', hA', -, hl, -⟩ := h5 (fun e => h0 (by rw [e]; rfl))
    rw [hA'] at hA
    have hA := Option.some.inj hA
    injection hA with e2 e3 _
    subst e2
    rcases hat with hat | ⟨hat, -⟩
    · have := he h0 _ _ _ rfl b' o' hA' (hat.symm.trans hv)
      exact ⟨by omega, by omega⟩
    · have h := Option.some.inj (hat.symm.trans hv)
      omega

theorem elem_lists : Try.prog.underlying 28 = some (.slice (Try.prog.elem 28)) := by kernel_rfl
theorem size_lists (W : World) : (sizeOf (Try.prog.elem 28)).run Try.prog W = .ok 1 W := by kernel_rfl
theorem lists_till (W : World) (a : Option Addr) (len c : Nat) (h : Int) (k : Nat) (hk : h = (k : Int)) (hc : k ≤ c) :
    (Instr.slice 28 (.slice a len c) none (some (.int .i64 h)) none).run Try.prog W = .ok (.slice a k c) W := by
  subst hk
  rw [run_slice_h _ _ _ _ _ elem_lists .i64 (k : Int) (by omega) (by omega), size_lists]
  simp only [Result.andThen, sliced, Int.toNat_natCast, Nat.sub_zero, Nat.zero_mul]
  split
  · rfl
  · cases a <;> simp [Addr.add]
theorem sliceAt_lists (W : World) (x : Value) (lo hi mx : Option Value) : (Instr.sliceAt 28 x lo hi mx).run Try.prog W = (Instr.slice 28 x lo hi mx).run Try.prog W := run_sliceAt_slice _ _ _ _ _ _ elem_lists

/-- a beginning of a list -/
theorem LLN.till {w : World} {M N : Nat → Prop} {A : Option Addr} {n c : Nat} {Ls : List (List UInt8)} (h : LLN w M N (.slice A n c) Ls) {k : Nat} (hk : k ≤ Ls.length) : LLN w M N (.slice A k c) (Ls.take k) := by
  obtain ⟨xs, h1, A0, c0, hv, h2, h3, h4, h5⟩ := h
  injection hv with e1 e2 e3
  subst e1 e2 e3
  have hl : (Ls.take k).length = k := by rw [List.length_take]; omega
  refine ⟨xs.take k, ⟨by rw [List.length_take, h1.1, hl]; omega, fun i l hi => ?_⟩, A, c, by rw [hl], by omega, h3, h4, fun hn => ?_⟩
  · rw [List.getElem?_take] at hi
    split at hi
    · rename_i hik
      obtain ⟨A', n', c', e1, e2⟩ := h1.2 i l hi
      exact ⟨A', n', c', by rw [List.getElem?_take, if_pos hik]; exact e1, e2⟩
    · cases hi
  · obtain ⟨b, o, hA, hb, hs, hc⟩ := h5 (fun e => hn (by rw [e, List.take_nil]))
    refine ⟨b, o, hA, hb, hs, fun j u hj => hc j u ?_⟩
    rw [List.getElem?_take] at hj
    split at hj
    · exact hj
    · cases hj

set_option maxHeartbeats 1000000 in
theorem begins_yes (La Lb : List (List UInt8)) (v x : Value) (w : World) (hv : LL w v La) (hx : LL w x Lb) (hp : Lb <+: La) (ha : La.length ≤ 9223372036854775807) :
    Calls Try.prog 28 #[v, x] w fun e w' => e = .returned (.bool true) ∧ ∃ n, w' = w.drewN n := by
  have hl := hp.length_le
  obtain ⟨A, c, rfl⟩ := hv.slice
  obtain ⟨A2, c2, rfl⟩ := hx.slice
  have hc := hv.len.2
  have ht : LL w (.slice A Lb.length c) Lb := by
    have := LLN.till hv hl
    obtain ⟨t, rfl⟩ := hp
    rwa [List.take_left] at this
  have hge : (Lb.length : Int) ≤ (La.length : Int) := by omega
  have hs1 : ∀ W, (Instr.sliceAt 28 (.slice A La.length c) none (some (.int .i64 (Lb.length : Int))) none).run Try.prog W = .ok (.slice A Lb.length c) W := fun W => (sliceAt_lists W _ _ _ _).trans (lists_till W _ _ _ _ _ rfl (by omega))
  have hs2 : ∀ W, (Instr.slice 28 (.slice A La.length c) none (some (.int .i64 (Lb.length : Int))) none).run Try.prog W = .ok (.slice A Lb.length c) W := fun W => lists_till W _ _ _ _ _ rfl (by omega)
  have cS := same_any Lb Lb _ _ w ht hx (by omega) (by omega)
  rw [decide_eq_true (rfl : Lb = Lb)] at cS
  clear hv hx ht hp hc
  go_enter Try.func28, Try.ntmps28
  go_wp2_with fail
  refine cS.mono ?_
  rintro e w1 ⟨rfl, n, rfl⟩
  go_wp2_with fail
  go_ret
  exact ⟨rfl, n, rfl⟩
section
/-- blocks of bytes that a list may lie in -/
def NN (wr : World) (W1 r : Nat) (G : Nat → Prop) (x : Nat) : Prop := ¬ G x ∧ x ≠ r ∧ (x < W1 ∨ U8B wr x)
structure KMem (wr : World) (W1 gs r : Nat) (G : Nat → Prop) (Y : Array Value) (v8 v14 : Value) (Ls Lo : List (List UInt8)) (xs : List Value) : Prop where
  own : wr.ownsRow W1 39 1 v14 Ls.length xs
  els : Els wr (NN wr W1 r G) xs Ls
  out : ∀ x, v14.ownBlock = some x → ¬ G x
  sure : LLN wr (fun x => ¬ G x ∧ x ≠ r) (NN wr W1 r G) v8 Lo
  eld : Elder v14 Ls.length v8 Lo.length
  cell : wr.heap[gs]? = some (.cells Y 59 (0, 0))
  free : ¬ G gs
  base : W1 ≤ wr.heap.size
  rlow : r < W1
  glow : gs < W1
  gr : gs ≠ r
variable {wr w' : World} {W1 gs r : Nat} {G G' : Nat → Prop} {Y : Array Value} {v8 v14 : Value} {Ls Lo : List (List UInt8)} {xs : List Value}
theorem KMem.ownNot (h : KMem wr W1 gs r G Y v8 v14 Ls Lo xs) (x : Nat) (hx : NN wr W1 r G x) : v14.ownBlock ≠ some x := fun e => by
  have h1 := (h.own.lt x e).1
  rcases hx.2.2 with h2 | ⟨C, hC⟩
  · omega
  · obtain ⟨cur, hcur⟩ := row_type h.own e
    rw [hC] at hcur
    injection hcur with hcur
    injection hcur with _ hcur
    exact absurd hcur (by decide)
theorem KMem.moved (h : KMem wr W1 gs r G Y v8 v14 Ls Lo xs) (hs : wr.heap.size ≤ w'.heap.size) (hold : ∀ x, x < wr.heap.size → ¬ G x → x ≠ r → w'.heap[x]? = wr.heap[x]?) (hG : ∀ x, G' x → G x ∨ wr.heap.size ≤ x) : KMem w' W1 gs r G' Y v8 v14 Ls Lo xs := by
  have nG : ∀ x, x < wr.heap.size → ¬ G x → ¬ G' x := fun x hx hn h => (hG x h).elim hn (fun h => by omega)
  have nn : ∀ x, NN wr W1 r G x → x < wr.heap.size → NN w' W1 r G' x := fun x hx hl => ⟨nG x hl hx.1, hx.2.1, hx.2.2.imp id fun ⟨C, hC⟩ => ⟨C, (hold x hl hx.1 hx.2.1).trans hC⟩⟩
  have hb := h.base
  have hgl := h.glow
  refine ⟨row_same h.own fun x hx => ?_, h.els.kept nn hs (fun x hx hl => hold x hl hx.1 hx.2.1), fun x hx => nG x (h.own.lt x hx).2 (h.out x hx), h.sure.kept (fun x hx hl => ⟨nG x hl hx.1, hx.2⟩) nn hs (fun x hx hl => hx.elim (fun hx => hold x hl hx.1 hx.2) (fun hx => hold x hl hx.1 hx.2.1)), h.eld, (hold gs (by omega) h.free h.gr).trans h.cell, nG gs (by omega) h.free, by omega, h.rlow, h.glow, h.gr⟩
  have h1 := h.own.lt x hx
  have h2 := h.rlow
  exact hold x h1.2 (h.out x hx) (by omega)
theorem KMem.push (h : KMem wr W1 gs r G Y v8 v14 Ls Lo xs) (hG : ∀ x, G x → x < wr.heap.size) {v' : Value} {A : Option Addr} {n c : Nat} {rec : List UInt8} (hv : RdN wr (NN wr W1 r G) (.slice A n c) rec) (ho : w'.ownsRow W1 39 1 v' (Ls.length + 1) (xs ++ [Value.slice A n c])) (hg : wr.grownBy w' v14.ownBlock)
    (hat : v'.ownBlock = v14.ownBlock ∨ v'.ownBlock = some wr.heap.size ∧ wr.grownBy w' none) : KMem w' W1 gs r G Y v8 v' (Ls ++ [rec]) Lo (xs ++ [Value.slice A n c]) := by
  have hs := hg.size
  have same : ∀ x, NN wr W1 r G x → x < wr.heap.size → w'.heap[x]? = wr.heap[x]? := fun x hx hl => hg.block x hl (fun e => h.ownNot x hx e.symm)
  have nn : ∀ x, NN wr W1 r G x → x < wr.heap.size → NN w' W1 r G x := fun x hx hl => ⟨hx.1, hx.2.1, hx.2.2.imp id fun ⟨C, hC⟩ => ⟨C, (same x hx hl).trans hC⟩⟩
  have hll : (Ls ++ [rec]).length = Ls.length + 1 := by rw [List.length_append, List.length_singleton]
  have hsu : LLN wr (fun x => ¬ G x ∧ x ≠ r) (fun x => NN wr W1 r G x ∧ x < wr.heap.size) v8 Lo := h.sure.kept (fun _ h _ => h) (fun _ h hl => ⟨h, hl⟩) (Nat.le_refl _) (fun _ _ _ => rfl)
  obtain ⟨h1, h2⟩ := hsu.elder h.eld h.own ho hg hat (fun b hb => h.ownNot b hb.1)
  have hb := h.base
  have hgl := h.glow
  refine ⟨by rw [hll]; exact ho, (h.els.kept nn hs same).snoc (hv.kept nn hs same), fun x hx hm => ?_, h1.kept (fun _ h _ => h) (fun x hx _ => ?_) (Nat.le_refl _) (fun _ _ _ => rfl), by rw [hll]; exact h2, ?_, h.free, by omega, h.rlow, h.glow, h.gr⟩
  · rcases hat with e | ⟨e, -⟩
    · exact h.out x (e.symm.trans hx) hm
    · have := Option.some.inj (e.symm.trans hx)
      have := hG x hm
      omega
  · exact nn x hx.1 hx.2
  · exact (hg.block gs (by omega) (fun e => by have := (h.own.lt gs e.symm).1; omega)).trans h.cell
theorem KMem.synced (h : KMem wr W1 gs r G Y v8 v14 Ls Lo xs) : KMem wr W1 gs r G Y v14 v14 Ls Ls xs := by
  have hr := h.rlow
  refine ⟨h.own, h.els, h.out, LLN.own h.own h.els (fun b hb => ⟨h.out b hb, by have := (h.own.lt b hb).1; omega⟩), ?_, h.cell, h.free, h.base, h.rlow, h.glow, h.gr⟩
  intro h0 A m c hv b o hA hb
  obtain ⟨g, cap, rfl, -, -⟩ := h.own.form (by omega)
  injection hv with e1 _ _
  subst e1
  have e2 := Option.some.inj hA
  injection e2 with _ e3 _
  exact ⟨e3.symm, Nat.le_refl _⟩
end
end Go.Proofs.Ytplpfhgdanclhaa
