/-
  What is read of what was written, and what was written of what is read: plainly. No statement is proved here. No condition.
-/
import Derived.Test.YtblbcoknefgcaaaMRdZ
import Derived.Test.YtblbcoknefgcaaaPlainC
import Derived.Test.YtblbcoknefgcaaaPlainD
namespace Go.Proofs.Ytblbcoknefgcaaa
open Go.RowKit

/-- reading and writing of one thing fit -/
structure Cod {α : Type} (f : RS → α × RS) (g : α → List UInt8) (ok : α → Prop) : Prop where
  none : (f none).2 = none
  only : ∀ l a t, f (some l) = (a, some t) → l = g a ++ t ∧ ok a
  back : ∀ a t, ok a → f (some (g a ++ t)) = (a, some t)
theorem Cod.prev {α : Type} {f : RS → α × RS} {g : α → List UInt8} {ok : α → Prop} (c : Cod f g ok) {s : RS} {a : α} {t : List UInt8} (h : f s = (a, some t)) : s = some (g a ++ t) ∧ ok a := by
  cases s with
  | none =>
    have := c.none
    rw [h] at this
    cases this
  | some l =>
    obtain ⟨h1, h2⟩ := c.only l a t h
    exact ⟨by rw [h1], h2⟩
theorem Cod.seq {α β : Type} {f1 : RS → α × RS} {g1 : α → List UInt8} {ok1 : α → Prop} {f2 : RS → β × RS} {g2 : β → List UInt8} {ok2 : β → Prop} (c1 : Cod f1 g1 ok1) (c2 : Cod f2 g2 ok2) :
    Cod (fun st => (((f1 st).1, (f2 (f1 st).2).1), (f2 (f1 st).2).2)) (fun p : α × β => g1 p.1 ++ g2 p.2) (fun p => ok1 p.1 ∧ ok2 p.2) := by
  refine ⟨?_, fun l a t h => ?_, fun a t h => ?_⟩
  · show (f2 (f1 _).2).2 = _
    rw [c1.none, c2.none]
  · obtain ⟨a1, a2⟩ := a
    injection h with h1 h2
    injection h1 with h1 h3
    have e2 : f2 (f1 (some l)).2 = (a2, some t) := by rw [← h3, ← h2]
    obtain ⟨e3, o2⟩ := c2.prev e2
    have e1 : f1 (some l) = (a1, some (g2 a2 ++ t)) := by rw [← h1, ← e3]
    obtain ⟨e4, o1⟩ := c1.only _ _ _ e1
    exact ⟨by rw [e4, List.append_assoc], o1, o2⟩
  · obtain ⟨a1, a2⟩ := a
    have e1 := c1.back a1 (g2 a2 ++ t) h.1
    have e2 := c2.back a2 t h.2
    show (((f1 (some ((g1 a1 ++ g2 a2) ++ t))).1, _), _) = _
    rw [List.append_assoc, e1]
    show (((a1, (f2 (some (g2 a2 ++ t))).1), (f2 (some (g2 a2 ++ t))).2) : (α × β) × RS) = _
    rw [e2]
theorem Cod.map {α β : Type} {f : RS → α × RS} {g : α → List UInt8} {ok : α → Prop} (c : Cod f g ok) (u : α → β) (v : β → α) (h1 : ∀ a, v (u a) = a) (h2 : ∀ b, u (v b) = b) : Cod (fun st => (u (f st).1, (f st).2)) (fun b => g (v b)) (fun b => ok (v b)) := by
  refine ⟨c.none, fun l b t h => ?_, fun b t h => ?_⟩
  · injection h with e1 e2
    have e : f (some l) = (v b, some t) := by rw [← e1, h1, ← e2]
    exact c.only _ _ _ e
  · have := c.back (v b) t h
    show (u (f (some (g (v b) ++ t))).1, (f (some (g (v b) ++ t))).2) = _
    rw [this, h2]
theorem Cod.told {α : Type} {z : α} {r : List UInt8 → Option (α × List UInt8)} {g : α → List UInt8} {ok : α → Prop} (h1 : ∀ l a t, r l = some (a, t) → l = g a ++ t ∧ ok a) (h2 : ∀ a t, ok a → r (g a ++ t) = some (a, t)) : Cod (told z r) g ok := by
  refine ⟨rfl, fun l a t h => ?_, fun a t h => told_some (h2 a t h)⟩
  cases hr : r l with
  | none => rw [told_none hr] at h; cases h
  | some p =>
    rw [told_some (a := p.1) (t := p.2) hr] at h
    injection h with e1 e2
    injection e2 with e2
    exact h1 l a t (by rw [hr, ← e1, ← e2])
theorem codK : Cod rK cv (fun k => 0 ≤ k ∧ k ≤ 255) := Cod.told (fun l a t h => by
    obtain ⟨q, e1, e2, e3⟩ := gCount_nat h
    refine ⟨?_, by omega, by omega⟩
    rw [cv_in (by omega) (by omega)]
    exact gCount_is h) (fun a t h => by rw [cv_in (by omega) (by omega)]; exact gCount_uv _ _ _ (by omega) (by omega) (by omega))
theorem codN : Cod rN (fun n => uv (zz n)) I64 := Cod.told (fun l a t h => gNum_is h) (fun a t h => gNum_uv a t h)
theorem codF : Cod rF fv (fun _ => True) := Cod.told (fun l a t h => ⟨gFlag_is h, trivial⟩) (fun a t _ => gFlag_fv a t)
theorem gStr_most {most : Int} {l t s : List UInt8} (h : gStr most l = some (s, t)) : (s.length : Int) ≤ most := by
  unfold gStr at h
  cases hg : gCount most l with
  | none => rw [hg] at h; cases h
  | some p =>
    rw [hg] at h
    simp only [] at h
    split at h
    · cases h
    · rename_i hn
      simp only [Option.some.injEq, Prod.mk.injEq] at h
      obtain ⟨q, hq, hq1, hq2⟩ := gCount_nat hg
      have hs : s.length = p.1.toNat := by rw [← h.1, List.length_take]; omega
      omega
theorem bs_list (s : ByteArray) : (⟨s.data.toList.toArray⟩ : ByteArray) = s := by cases s; rfl
theorem codS : Cod rS (fun s => tv s.data.toList) (fun s => s.size ≤ 8192) := by
  have c : Cod (told [] (gStr 8192)) (fun s => tv s) (fun s => s.length ≤ 8192) := Cod.told (fun l a t h => by
      refine ⟨(gStr_is h).1, ?_⟩
      have h1 := gStr_most h
      omega) (fun a t h => gStr_tv 8192 a t (by omega) (by omega))
  have := c.map (fun s : List UInt8 => (⟨s.toArray⟩ : ByteArray)) (fun s => s.data.toList) (fun a => by simp) bs_list
  refine ⟨this.none, fun l a t h => ?_, fun a t h => this.back a t (by have : a.data.toList.length = a.size := by rw [Array.length_toList]; rfl
                                                                       omega)⟩
  obtain ⟨e1, e2⟩ := this.only l a t h
  refine ⟨e1, ?_⟩
  have : a.data.toList.length = a.size := by rw [Array.length_toList]; rfl
  omega
/-- so many things -/
theorem rMany_only {α : Type} {f : RS → α × RS} {g : α → List UInt8} {ok : α → Prop} (c : Cod f g ok) : ∀ (n : Nat) (s : RS) (L : List α) (t : List UInt8), rMany f n s = (L, some t) → s = some (L.flatMap g ++ t) ∧ L.length = n ∧ ∀ a ∈ L, ok a
  | 0, s, L, t, h => by
    rw [rMany_zero] at h
    injection h with e1 e2
    subst e1 e2
    exact ⟨rfl, rfl, fun a h => by cases h⟩
  | n + 1, none, L, t, h => by injection h with e1 e2; cases e2
  | n + 1, some l, L, t, h => by
    unfold rMany at h
    injection h with e1 e2
    obtain ⟨q, hq⟩ : ∃ q, q = rMany f n (f (some l)).2 := ⟨_, rfl⟩
    rw [← hq] at e1 e2
    have h2 : rMany f n (f (some l)).2 = (q.1, some t) := by rw [← hq, ← e2]
    obtain ⟨i1, i2, i3⟩ := rMany_only c n _ _ _ h2
    have h3 : f (some l) = ((f (some l)).1, some (q.1.flatMap g ++ t)) := by rw [← i1]
    obtain ⟨j1, j2⟩ := c.only _ _ _ h3
    subst e1
    refine ⟨?_, by simp [i2], fun a ha => ?_⟩
    · rw [List.flatMap_cons, List.append_assoc, ← j1]
    · rcases List.mem_cons.1 ha with rfl | ha
      · exact j2
      · exact i3 a ha
theorem rMany_back {α : Type} {f : RS → α × RS} {g : α → List UInt8} {ok : α → Prop} (c : Cod f g ok) : ∀ (L : List α) (t : List UInt8), (∀ a ∈ L, ok a) → rMany f L.length (some (L.flatMap g ++ t)) = (L, some t)
  | [], t, _ => rfl
  | a :: L, t, h => by
    have h1 := c.back a (L.flatMap g ++ t) (h a (by simp))
    have h2 := rMany_back c L t fun b hb => h b (by simp [hb])
    rw [List.flatMap_cons, List.append_assoc]
    show rMany f (L.length + 1) (some (g a ++ (L.flatMap g ++ t))) = _
    unfold rMany
    rw [h1]
    show (a :: (rMany f L.length (some (L.flatMap g ++ t))).1, (rMany f L.length (some (L.flatMap g ++ t))).2) = _
    rw [h2]
theorem many_len {α : Type} {g : α → List UInt8} : ∀ L : List α, (∀ a ∈ L, 1 ≤ (g a).length) → L.length ≤ (L.flatMap g).length
  | [], _ => by simp
  | a :: L, h => by
    have h1 := h a (by simp)
    have h2 := many_len L fun b hb => h b (by simp [hb])
    rw [List.flatMap_cons, List.length_append, List.length_cons]
    omega
theorem codL {α : Type} {f : RS → α × RS} {g : α → List UInt8} {ok : α → Prop} (c : Cod f g ok) (hp : ∀ a, 1 ≤ (g a).length) : Cod (rList f) (fun L => cv L.length ++ L.flatMap g) (fun L => (∀ a ∈ L, ok a) ∧ L.length ≤ 2147483647) := by
  refine ⟨?_, fun l L t h => ?_, fun L t h => ?_⟩
  · unfold rList
    rw [show (rL none).2 = none from rfl, rMany_none]
  · unfold rList at h
    obtain ⟨i1, i2, i3⟩ := rMany_only c _ _ _ _ h
    have hr := rL_range (some l)
    have h1 : rL (some l) = ((L.length : Int), some (L.flatMap g ++ t)) := by
      rw [← i1, show (L.length : Int) = (rL (some l)).1 by omega]
    unfold rL at h1
    cases hg : gCount (((some l : RS).getD []).length : Int) l with
    | none => rw [told_none hg] at h1; injection h1 with _ h2; cases h2
    | some p =>
      rw [told_some (a := p.1) (t := p.2) hg] at h1
      injection h1 with e1 e2
      injection e2 with e2
      have := gCount_is (n := p.1) (t := p.2) hg
      refine ⟨?_, i3, by omega⟩
      rw [this, e1, e2, cv_in (by omega) (by omega), List.append_assoc]
  · have h3 := many_len (g := g) L fun a _ => hp a
    have h4 : gCount (((some ((cv L.length ++ L.flatMap g) ++ t) : RS).getD []).length : Int) ((cv L.length ++ L.flatMap g) ++ t) = some ((L.length : Int), L.flatMap g ++ t) := by
      rw [List.append_assoc, cv_in (by omega) (by omega)]
      refine gCount_uv _ _ _ (by omega) (by omega) ?_
      show (L.length : Int) ≤ ((uv (L.length : Int).toNat ++ (L.flatMap g ++ t)).length : Int)
      rw [List.length_append, List.length_append]
      omega
    show rMany f (told 0 (gCount _) (some _)).1.toNat (told 0 (gCount _) (some _)).2 = _
    rw [told_some h4]
    exact rMany_back c L t h.1
theorem codPR : Cod rPR (fun c : PR => cv c.kind ++ fv c.found ++ tv c.val.data.toList) (fun c => (0 ≤ c.kind ∧ c.kind ≤ 255) ∧ c.val.size ≤ 8192) := by
  have c := ((codK.seq codF).seq codS).map (fun p => (⟨p.1.1, p.1.2, p.2⟩ : PR)) (fun c => ((c.kind, c.found), c.val)) (fun _ => rfl) (fun _ => rfl)
  exact ⟨c.none, fun l a t h => by obtain ⟨h1, h2⟩ := c.only l a t h; exact ⟨h1, h2.1.1, h2.2⟩, fun a t h => c.back a t ⟨⟨h.1, trivial⟩, h.2⟩⟩
theorem codPO : Cod rPO (fun c : PO => cv c.kind ++ tv c.key.data.toList ++ tv c.val.data.toList ++ tv c.old.data.toList ++ fv c.had) (fun c => (0 ≤ c.kind ∧ c.kind ≤ 255) ∧ c.key.size ≤ 8192 ∧ c.val.size ≤ 8192 ∧ c.old.size ≤ 8192) := by
  have c := ((((codK.seq codS).seq codS).seq codS).seq codF).map (fun p => (⟨p.1.1.1.1, p.1.1.1.2, p.1.1.2, p.1.2, p.2⟩ : PO)) (fun c => ((((c.kind, c.key), c.val), c.old), c.had)) (fun _ => rfl) (fun _ => rfl)
  exact ⟨c.none, fun l a t h => by obtain ⟨h1, h2⟩ := c.only l a t h; exact ⟨h1, h2.1.1.1.1, h2.1.1.1.2, h2.1.1.2, h2.1.2⟩, fun a t h => c.back a t ⟨⟨⟨⟨h.1, h.2.1⟩, h.2.2.1⟩, h.2.2.2⟩, trivial⟩⟩
theorem codCM : Cod rCM (fun c : CM => cv c.kind ++ uv (zz c.shard) ++ uv (zz c.store) ++ uv (zz c.epoch)) CM.ok := by
  have c := (((codK.seq codN).seq codN).seq codN).map (fun p => (⟨p.1.1.1, p.1.1.2, p.1.2, p.2⟩ : CM)) (fun c => (((c.kind, c.shard), c.store), c.epoch)) (fun _ => rfl) (fun _ => rfl)
  exact ⟨c.none, fun l a t h => by obtain ⟨h1, h2⟩ := c.only l a t h; exact ⟨h1, h2.1.1.1, h2.1.1.2, h2.1.2, h2.2⟩, fun a t h => c.back a t ⟨⟨⟨h.1, h.2.1⟩, h.2.2.1⟩, h.2.2.2⟩⟩
theorem codPP : Cod rPP prB (fun c => c.key.size ≤ 8192 ∧ c.val.size ≤ 8192) :=
  (codS.seq codS).map (fun p => (⟨p.1, p.2⟩ : PP)) (fun c => (c.key, c.val)) (fun _ => rfl) (fun _ => rfl)
theorem codPL : Cod rPL lsB (fun c => c.ok ∧ c.res.val.size ≤ 8192) := by
  have c := ((codN.seq codN).seq codPR).map (fun p => (⟨p.1.1, p.1.2, p.2⟩ : PL)) (fun c => ((c.client, c.id), c.res)) (fun _ => rfl) (fun _ => rfl)
  exact ⟨c.none, fun l a t h => by obtain ⟨h1, h2⟩ := c.only l a t h; exact ⟨h1, ⟨h2.1.1, h2.1.2, h2.2.1⟩, h2.2.2⟩, fun a t h => c.back a t ⟨⟨h.1.1, h.1.2.1⟩, h.1.2.2, h.2⟩⟩
theorem codNs : Cod (rList rN) (fun L => cv L.length ++ nsB L) (fun L => (∀ a ∈ L, I64 a) ∧ L.length ≤ 2147483647) := codL codN fun a => uv_pos _
theorem codEN : Cod rEN entB (fun e => e.ok ∧ e.data.size ≤ 8192 ∧ e.list.length ≤ 2147483647) := by
  have c := (((codN.seq codK).seq codS).seq codNs).map (fun p => (⟨p.1.1.1, p.1.1.2, p.1.2, p.2⟩ : EN)) (fun c => (((c.term, c.kind), c.data), c.list)) (fun _ => rfl) (fun _ => rfl)
  exact ⟨c.none, fun l a t h => by obtain ⟨h1, h2⟩ := c.only l a t h; exact ⟨h1, ⟨h2.1.1.1, h2.1.1.2, h2.2.1⟩, h2.1.2, h2.2.2⟩, fun a t h => c.back a t ⟨⟨⟨h.1.1, h.1.2.1⟩, h.2.1⟩, h.1.2.2, h.2.2⟩⟩
theorem codEs : Cod (rList rEN) (fun L => cv L.length ++ manyB entB L) (fun L => (∀ a ∈ L, a.ok ∧ a.data.size ≤ 8192 ∧ a.list.length ≤ 2147483647) ∧ L.length ≤ 2147483647) := codL codEN fun a => by
  have := uv_pos (zz a.term)
  unfold entB
  simp only [List.length_append]
  omega
theorem codPs : Cod (rList rPP) (fun L => cv L.length ++ manyB prB L) (fun L => (∀ a ∈ L, a.key.size ≤ 8192 ∧ a.val.size ≤ 8192) ∧ L.length ≤ 2147483647) := codL codPP fun a => by
  have := uv_pos a.key.data.toList.length
  unfold prB tv
  simp only [List.length_append]
  omega
theorem codXs : Cod (rList rPL) (fun L => cv L.length ++ manyB lsB L) (fun L => (∀ a ∈ L, a.ok ∧ a.res.val.size ≤ 8192) ∧ L.length ≤ 2147483647) := codL codPL fun a => by
  have := uv_pos (zz a.client)
  unfold lsB
  simp only [List.length_append]
  omega
/-- texts and lists are short -/
structure MG.small (m : MG) : Prop where
  own : m.op.key.size ≤ 8192 ∧ m.op.val.size ≤ 8192 ∧ m.op.old.size ≤ 8192 ∧ m.res.val.size ≤ 8192 ∧ m.state.size ≤ 8192
  lens : m.entries.length ≤ 2147483647 ∧ m.list.length ≤ 2147483647 ∧ m.pairs.length ≤ 2147483647 ∧ m.lasts.length ≤ 2147483647
  e : ∀ c ∈ m.entries, c.data.size ≤ 8192 ∧ c.list.length ≤ 2147483647
  p : ∀ c ∈ m.pairs, c.key.size ≤ 8192 ∧ c.val.size ≤ 8192
  x : ∀ c ∈ m.lasts, c.res.val.size ≤ 8192
theorem msg_only {s : RS} {m : MG} {t : List UInt8} (h : RdMsg s m (some t)) : s = some (m.by ++ t) ∧ m.fit ∧ m.small := by
  obtain ⟨t0, t1, t2, t3, t4, t5, t6, t7, t8, t9, t10, t11, t12, t13, t14, t15, t16, t17, t18, t19, t20, t21, t22, t23, h0, h1, h2, h3, h4, h5, h6, h7, h8, h9, h10, h11, h12, h13, h14, h15, h16, h17, h18, h19, h20, h21, h22, h23, hl⟩ := h.ex
  subst hl
  obtain ⟨e23, o23⟩ := codCM.prev h23
  subst e23
  obtain ⟨e22, o22⟩ := codXs.prev h22
  subst e22
  obtain ⟨e21, o21⟩ := codPs.prev h21
  subst e21
  obtain ⟨e20, o20⟩ := codF.prev h20
  subst e20
  obtain ⟨e19, o19⟩ := codN.prev h19
  subst e19
  obtain ⟨e18, o18⟩ := codS.prev h18
  subst e18
  obtain ⟨e17, o17⟩ := codNs.prev h17
  subst e17
  obtain ⟨e16, o16⟩ := codEs.prev h16
  subst e16
  obtain ⟨e15, o15⟩ := codF.prev h15
  subst e15
  obtain ⟨e14, o14⟩ := codN.prev h14
  subst e14
  obtain ⟨e13, o13⟩ := codN.prev h13
  subst e13
  obtain ⟨e12, o12⟩ := codN.prev h12
  subst e12
  obtain ⟨e11, o11⟩ := codN.prev h11
  subst e11
  obtain ⟨e10, o10⟩ := codN.prev h10
  subst e10
  obtain ⟨e9, o9⟩ := codPR.prev h9
  subst e9
  obtain ⟨e8, o8⟩ := codN.prev h8
  subst e8
  obtain ⟨e7, o7⟩ := codPO.prev h7
  subst e7
  obtain ⟨e6, o6⟩ := codN.prev h6
  subst e6
  obtain ⟨e5, o5⟩ := codN.prev h5
  subst e5
  obtain ⟨e4, o4⟩ := codN.prev h4
  subst e4
  obtain ⟨e3, o3⟩ := codN.prev h3
  subst e3
  obtain ⟨e2, o2⟩ := codN.prev h2
  subst e2
  obtain ⟨e1, o1⟩ := codN.prev h1
  subst e1
  obtain ⟨e0, o0⟩ := codK.prev h0
  refine ⟨?_, ⟨⟨o0, ⟨o1, o2, o3, o4, o5, o6⟩, o7.1, o8, o9.1, ⟨o10, o11, o12, o13, o14⟩, o19, o23⟩, ⟨?_, ?_, ?_, ?_⟩, fun e he => ⟨(o16.1 e he).1, ?_⟩, o17.1, fun c hc => (o22.1 c hc).1⟩, ⟨⟨o7.2.1, o7.2.2.1, o7.2.2.2, o9.2, o18⟩, ⟨o16.2, o17.2, o21.2, o22.2⟩, fun c hc => (o16.1 c hc).2, o21.1, fun c hc => (o22.1 c hc).2⟩⟩
  · rw [e0]
    unfold MG.by
    simp only [List.append_assoc]
  · have := o16.2; omega
  · have := o17.2; omega
  · have := o21.2; omega
  · have := o22.2; omega
  · have := (o16.1 e he).2.2; omega
theorem msg_back {m : MG} (hf : m.fit) (hs : m.small) (t : List UInt8) : RdMsg (some (m.by ++ t)) m (some t) := by
  obtain ⟨r23, hr23⟩ : ∃ r, r = (cv m.cmd.kind ++ uv (zz m.cmd.shard) ++ uv (zz m.cmd.store) ++ uv (zz m.cmd.epoch)) ++ t := ⟨_, rfl⟩
  obtain ⟨r22, hr22⟩ : ∃ r, r = (cv m.lasts.length ++ manyB lsB m.lasts) ++ r23 := ⟨_, rfl⟩
  obtain ⟨r21, hr21⟩ : ∃ r, r = (cv m.pairs.length ++ manyB prB m.pairs) ++ r22 := ⟨_, rfl⟩
  obtain ⟨r20, hr20⟩ : ∃ r, r = fv m.last ++ r21 := ⟨_, rfl⟩
  obtain ⟨r19, hr19⟩ : ∃ r, r = uv (zz m.part) ++ r20 := ⟨_, rfl⟩
  obtain ⟨r18, hr18⟩ : ∃ r, r = tv m.state.data.toList ++ r19 := ⟨_, rfl⟩
  obtain ⟨r17, hr17⟩ : ∃ r, r = (cv m.list.length ++ nsB m.list) ++ r18 := ⟨_, rfl⟩
  obtain ⟨r16, hr16⟩ : ∃ r, r = (cv m.entries.length ++ manyB entB m.entries) ++ r17 := ⟨_, rfl⟩
  obtain ⟨r15, hr15⟩ : ∃ r, r = fv m.granted ++ r16 := ⟨_, rfl⟩
  obtain ⟨r14, hr14⟩ : ∃ r, r = uv (zz m.commit) ++ r15 := ⟨_, rfl⟩
  obtain ⟨r13, hr13⟩ : ∃ r, r = uv (zz m.prev) ++ r14 := ⟨_, rfl⟩
  obtain ⟨r12, hr12⟩ : ∃ r, r = uv (zz m.index) ++ r13 := ⟨_, rfl⟩
  obtain ⟨r11, hr11⟩ : ∃ r, r = uv (zz m.term) ++ r12 := ⟨_, rfl⟩
  obtain ⟨r10, hr10⟩ : ∃ r, r = uv (zz m.grant) ++ r11 := ⟨_, rfl⟩
  obtain ⟨r9, hr9⟩ : ∃ r, r = (cv m.res.kind ++ fv m.res.found ++ tv m.res.val.data.toList) ++ r10 := ⟨_, rfl⟩
  obtain ⟨r8, hr8⟩ : ∃ r, r = uv (zz m.code) ++ r9 := ⟨_, rfl⟩
  obtain ⟨r7, hr7⟩ : ∃ r, r = (cv m.op.kind ++ tv m.op.key.data.toList ++ tv m.op.val.data.toList ++ tv m.op.old.data.toList ++ fv m.op.had) ++ r8 := ⟨_, rfl⟩
  obtain ⟨r6, hr6⟩ : ∃ r, r = uv (zz m.id) ++ r7 := ⟨_, rfl⟩
  obtain ⟨r5, hr5⟩ : ∃ r, r = uv (zz m.client) ++ r6 := ⟨_, rfl⟩
  obtain ⟨r4, hr4⟩ : ∃ r, r = uv (zz m.req) ++ r5 := ⟨_, rfl⟩
  obtain ⟨r3, hr3⟩ : ∃ r, r = uv (zz m.owner) ++ r4 := ⟨_, rfl⟩
  obtain ⟨r2, hr2⟩ : ∃ r, r = uv (zz m.epoch) ++ r3 := ⟨_, rfl⟩
  obtain ⟨r1, hr1⟩ : ∃ r, r = uv (zz m.shard) ++ r2 := ⟨_, rfl⟩
  have e0 : m.by ++ t = cv m.kind ++ r1 := by
    rw [hr1, hr2, hr3, hr4, hr5, hr6, hr7, hr8, hr9, hr10, hr11, hr12, hr13, hr14, hr15, hr16, hr17, hr18, hr19, hr20, hr21, hr22, hr23]
    unfold MG.by
    simp only [List.append_assoc]
  rw [e0]
  have b1 := codN.back m.shard r2 (hf.ok.nums.1)
  rw [← hr1] at b1
  have b2 := codN.back m.epoch r3 (hf.ok.nums.2.1)
  rw [← hr2] at b2
  have b3 := codN.back m.owner r4 (hf.ok.nums.2.2.1)
  rw [← hr3] at b3
  have b4 := codN.back m.req r5 (hf.ok.nums.2.2.2.1)
  rw [← hr4] at b4
  have b5 := codN.back m.client r6 (hf.ok.nums.2.2.2.2.1)
  rw [← hr5] at b5
  have b6 := codN.back m.id r7 (hf.ok.nums.2.2.2.2.2)
  rw [← hr6] at b6
  have b7 := codPO.back m.op r8 (⟨hf.ok.op, hs.own.1, hs.own.2.1, hs.own.2.2.1⟩)
  rw [← hr7] at b7
  have b8 := codN.back m.code r9 (hf.ok.code)
  rw [← hr8] at b8
  have b9 := codPR.back m.res r10 (⟨hf.ok.res, hs.own.2.2.2.1⟩)
  rw [← hr9] at b9
  have b10 := codN.back m.grant r11 (hf.ok.more.1)
  rw [← hr10] at b10
  have b11 := codN.back m.term r12 (hf.ok.more.2.1)
  rw [← hr11] at b11
  have b12 := codN.back m.index r13 (hf.ok.more.2.2.1)
  rw [← hr12] at b12
  have b13 := codN.back m.prev r14 (hf.ok.more.2.2.2.1)
  rw [← hr13] at b13
  have b14 := codN.back m.commit r15 (hf.ok.more.2.2.2.2)
  rw [← hr14] at b14
  have b15 := codF.back m.granted r16 (trivial)
  rw [← hr15] at b15
  have b16 := codEs.back m.entries r17 (⟨fun e he => ⟨(hf.ents e he).1, hs.e e he⟩, hs.lens.1⟩)
  rw [← hr16] at b16
  have b17 := codNs.back m.list r18 (⟨hf.ints, hs.lens.2.1⟩)
  rw [← hr17] at b17
  have b18 := codS.back m.state r19 (hs.own.2.2.2.2)
  rw [← hr18] at b18
  have b19 := codN.back m.part r20 (hf.ok.part)
  rw [← hr19] at b19
  have b20 := codF.back m.last r21 (trivial)
  rw [← hr20] at b20
  have b21 := codPs.back m.pairs r22 (⟨hs.p, hs.lens.2.2.1⟩)
  rw [← hr21] at b21
  have b22 := codXs.back m.lasts r23 (⟨fun c hc => ⟨hf.lsts c hc, hs.x c hc⟩, hs.lens.2.2.2⟩)
  rw [← hr22] at b22
  have b23 := codCM.back m.cmd t (hf.ok.cmd)
  rw [← hr23] at b23
  exact ⟨⟨some r1, some r2, some r3, some r4, some r5, some r6, some r7, some r8, some r9, some r10, some r11, some r12, some r13, some r14, some r15, some r16, some r17, some r18, some r19, some r20, some r21, some r22, some r23, some t, codK.back m.kind r1 hf.ok.kind, b1, b2, b3, b4, b5, b6, b7, b8, b9, b10, b11, b12, b13, b14, b15, b16, b17, b18, b19, b20, b21, b22, b23, rfl⟩⟩
theorem msg_same {s s1 s2 : RS} {m n : MG} (h : RdMsg s m s1) (g : RdMsg s n s2) : m = n ∧ s1 = s2 := by
  obtain ⟨t0, t1, t2, t3, t4, t5, t6, t7, t8, t9, t10, t11, t12, t13, t14, t15, t16, t17, t18, t19, t20, t21, t22, t23, h0, h1, h2, h3, h4, h5, h6, h7, h8, h9, h10, h11, h12, h13, h14, h15, h16, h17, h18, h19, h20, h21, h22, h23, hl⟩ := h.ex
  obtain ⟨u0, u1, u2, u3, u4, u5, u6, u7, u8, u9, u10, u11, u12, u13, u14, u15, u16, u17, u18, u19, u20, u21, u22, u23, g0, g1, g2, g3, g4, g5, g6, g7, g8, g9, g10, g11, g12, g13, g14, g15, g16, g17, g18, g19, g20, g21, g22, g23, gl⟩ := g.ex
  subst hl gl
  obtain ⟨q0, p0⟩ := Prod.mk.inj (h0.symm.trans g0)
  subst p0
  obtain ⟨q1, p1⟩ := Prod.mk.inj (h1.symm.trans g1)
  subst p1
  obtain ⟨q2, p2⟩ := Prod.mk.inj (h2.symm.trans g2)
  subst p2
  obtain ⟨q3, p3⟩ := Prod.mk.inj (h3.symm.trans g3)
  subst p3
  obtain ⟨q4, p4⟩ := Prod.mk.inj (h4.symm.trans g4)
  subst p4
  obtain ⟨q5, p5⟩ := Prod.mk.inj (h5.symm.trans g5)
  subst p5
  obtain ⟨q6, p6⟩ := Prod.mk.inj (h6.symm.trans g6)
  subst p6
  obtain ⟨q7, p7⟩ := Prod.mk.inj (h7.symm.trans g7)
  subst p7
  obtain ⟨q8, p8⟩ := Prod.mk.inj (h8.symm.trans g8)
  subst p8
  obtain ⟨q9, p9⟩ := Prod.mk.inj (h9.symm.trans g9)
  subst p9
  obtain ⟨q10, p10⟩ := Prod.mk.inj (h10.symm.trans g10)
  subst p10
  obtain ⟨q11, p11⟩ := Prod.mk.inj (h11.symm.trans g11)
  subst p11
  obtain ⟨q12, p12⟩ := Prod.mk.inj (h12.symm.trans g12)
  subst p12
  obtain ⟨q13, p13⟩ := Prod.mk.inj (h13.symm.trans g13)
  subst p13
  obtain ⟨q14, p14⟩ := Prod.mk.inj (h14.symm.trans g14)
  subst p14
  obtain ⟨q15, p15⟩ := Prod.mk.inj (h15.symm.trans g15)
  subst p15
  obtain ⟨q16, p16⟩ := Prod.mk.inj (h16.symm.trans g16)
  subst p16
  obtain ⟨q17, p17⟩ := Prod.mk.inj (h17.symm.trans g17)
  subst p17
  obtain ⟨q18, p18⟩ := Prod.mk.inj (h18.symm.trans g18)
  subst p18
  obtain ⟨q19, p19⟩ := Prod.mk.inj (h19.symm.trans g19)
  subst p19
  obtain ⟨q20, p20⟩ := Prod.mk.inj (h20.symm.trans g20)
  subst p20
  obtain ⟨q21, p21⟩ := Prod.mk.inj (h21.symm.trans g21)
  subst p21
  obtain ⟨q22, p22⟩ := Prod.mk.inj (h22.symm.trans g22)
  subst p22
  obtain ⟨q23, p23⟩ := Prod.mk.inj (h23.symm.trans g23)
  subst p23
  refine ⟨?_, rfl⟩
  cases m
  cases n
  simp only [] at q0 q1 q2 q3 q4 q5 q6 q7 q8 q9 q10 q11 q12 q13 q14 q15 q16 q17 q18 q19 q20 q21 q22 q23
  subst q0 q1 q2 q3 q4 q5 q6 q7 q8 q9 q10 q11 q12 q13 q14 q15 q16 q17 q18 q19 q20 q21 q22 q23
  rfl
end Go.Proofs.Ytblbcoknefgcaaa
