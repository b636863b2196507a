/- Promise 5, plain: what the law asks of joins. -/
import Derived.Test.YtdgcmjhnglacnaaVOut
import Derived.Test.YtdgcmjhnglacnaaVAt
import Derived.Test.YtdgcmjhnglacnaaFactJ
namespace Go.Proofs.Ytdgcmjhnglacnaa
open Go Go.RowKit
set_option linter.unusedVariables false

/-- Of two facts of one node that are not one, just one is the lesser. -/
theorem less_one {f g : FactV} {r q : Bool} (h : oneNode f g) (hne : f ≠ g) (hr : r = true ↔ lessF f g) (hq : q = true ↔ lessF g f) : (r == q) = false := by
  have h' : oneNode g f := ⟨h.2.1, h.1, h.2.2.symm⟩
  have e1 : lessF f g ↔ f.lt g := ⟨fun x => x.2, fun x => ⟨h, x⟩⟩
  have e2 : lessF g f ↔ g.lt f := ⟨fun x => x.2, fun x => ⟨h', x⟩⟩
  have hx : ¬ (f.lt g ∧ g.lt f) := by unfold FactV.lt; omega
  have hy : f.lt g ∨ g.lt f := by
    apply Classical.byContradiction
    intro k
    have k1 : f.inc = g.inc := by unfold FactV.lt at k; omega
    have k2 : f.st = g.st := by unfold FactV.lt at k; omega
    exact hne (FactV.ext' h.2.2 k1 k2)
  rw [e1] at hr
  rw [e2] at hq
  cases r <;> cases q <;> simp at hr hq ⊢
  · rcases hy with k | k
    · exact hr k
    · exact hq k
  · exact hx ⟨hr, hq⟩
theorem joinIs_comm {f g m m' : FactV} (h : oneNode f g) (h1 : JoinFIs f g m) (h2 : JoinFIs g f m') : m' = m := by
  have h' : oneNode g f := ⟨h.2.1, h.1, h.2.2.symm⟩
  rcases h1 with ⟨_, rfl⟩ | ⟨k, _⟩
  · rcases h2 with ⟨_, rfl⟩ | ⟨k, _⟩
    · exact joinF_comm h.2.2.symm
    · exact absurd h' k
  · exact absurd h k
theorem joinIs_ge {f g m : FactV} (h : oneNode f g) (h1 : JoinFIs f g m) : ¬ lessF m f := by
  rcases h1 with ⟨_, rfl⟩ | ⟨k, _⟩
  · exact fun x => (joinF_ge f g).1 x.2
  · exact absurd h k
/-- What is put: news just where the view changed, and there the node stands no lower. -/
theorem put_says {c m : List FactV} {h : FactV} {r : Bool} (hp : PutIs c h 0 m r) {q : Bool} (hq : q = true ↔ m = c) : r = !q := by
  rcases hp with ⟨_, k, _⟩ | ⟨_, _, k, _⟩ | ⟨h1, h2, _, k, hk, rfl, hr⟩
  · cases k
  · cases k
  · have hn := news_put (rightV_rise h1) hk
    cases r with
    | true =>
      cases q with
      | false => rfl
      | true =>
        have e := hq.1 rfl
        have := hn.2 (hr.1 rfl)
        rw [e] at this
        exact absurd this (not_news_self c)
    | false =>
      cases q with
      | true => rfl
      | false =>
        have := put_same (rightV_rise h1) hk (fun x => by have := hr.2 x; cases this)
        have := hq.2 this
        cases this
theorem put_at {c m : List FactV} {h x : FactV} {r : Bool} (hp : PutIs c h 0 m r) (hx : AtIs m h.node x) : ¬ lessF x h := by
  rcases hp with ⟨_, k, _⟩ | ⟨_, _, k, _⟩ | ⟨h1, h2, _, k, hk, rfl, hr⟩
  · cases k
  · cases k
  · rcases hx with ⟨_, rfl⟩ | ⟨hn, _⟩
    · have e := put_look (rightV_rise h1) hk h.node
      rw [if_pos rfl] at e
      unfold atF
      rw [e]
      rintro ⟨_, hlt⟩
      simp only [Option.getD_some] at hlt
      cases hl : look c h.node with
      | none => rw [hl] at hlt; simp only [joinO] at hlt; unfold FactV.lt at hlt; omega
      | some y => rw [hl] at hlt; simp only [joinO] at hlt; exact (joinF_ge y h).2 hlt
    · exact absurd (put_right h1 h2 hk) hn
theorem put_rightV {c m : List FactV} {h : FactV} {r : Bool} (hp : PutIs c h 0 m r) : rightV m := by
  rcases hp with ⟨_, k, _⟩ | ⟨_, _, k, _⟩ | ⟨h1, h2, _, k, hk, rfl, hr⟩
  · cases k
  · cases k
  · exact put_right h1 h2 hk
theorem joinV_right {a b m : List FactV} {r : Bool} (h : JoinVIs a b 0 m r) : rightV a ∧ rightV b ∧ rightV m ∧ ∃ p, JoinIs a b m p ∧ (r = true ↔ p) := by
  rcases h with ⟨_, k, _⟩ | ⟨_, _, _, k, _⟩ | ⟨h1, h2, _, p, hp, hr⟩
  · cases k
  · cases k
  · exact ⟨h1, h2, join_right h1 h2 hp, p, hp, hr⟩
theorem join_at {a b m : List FactV} {r : Bool} (h : JoinVIs a b 0 m r) {i : Nat} (hi : i < a.length) {f x : FactV} (hf : a[i] = f) (hx : AtIs m f.node x) : ¬ lessF x f := by
  obtain ⟨h1, h2, h3, p, hp, _⟩ := joinV_right h
  rcases hx with ⟨_, rfl⟩ | ⟨hn, _⟩
  · have hl := look_of (rightV_rise h1) (x := f) (by rw [← hf]; exact List.getElem_mem hi)
    obtain ⟨y, hy, hlt⟩ := (join_facts (rightV_rise h1) hp).2.1 _ _ hl
    unfold atF
    rw [hy]
    exact fun k => hlt k.2
  · exact absurd h3 hn
theorem joinV_of {a b : List FactV} (h1 : rightV a) (h2 : rightV b) : ∃ m r, JoinVIs a b 0 m r := by
  obtain ⟨m, p, hp⟩ := join_ex (rightV_rise h1) b
  obtain ⟨r, hr⟩ : ∃ r : Bool, r = true ↔ p := ⟨@decide p (Classical.propDecidable _), by simp⟩
  exact ⟨m, r, .inr (.inr ⟨h1, h2, rfl, p, hp, hr⟩)⟩
theorem lookV {a b m : List FactV} {r : Bool} (h : JoinVIs a b 0 m r) (n : Int) : look m n = joinOO (look a n) (look b n) := by
  obtain ⟨h1, h2, h3, p, hp, _⟩ := joinV_right h
  exact join_look (rightV_rise h1) (rightV_rise h2) hp n
theorem join_turn {a b x y : List FactV} {r q : Bool} (h : JoinVIs a b 0 x r) {c : Int} (k : JoinVIs b a c y q) : y = x := by
  obtain ⟨h1, h2, h3, _⟩ := joinV_right h
  have l1 := rightV_len h1
  have l2 := rightV_len h2
  rcases k with ⟨k, _⟩ | ⟨_, _, k, _⟩ | ⟨k1, k2, rfl, p, hp, hr⟩
  · omega
  · rcases k with k | k
    · exact absurd h2 k
    · exact absurd h1 k
  · have k : JoinVIs b a 0 y q := .inr (.inr ⟨k1, k2, rfl, p, hp, hr⟩)
    refine look_inj (rightV_rise (joinV_right k).2.2.1) (rightV_rise h3) fun n => ?_
    rw [lookV h n, lookV k n]
    cases ha : look a n with
    | none => cases hb : look b n <;> rfl
    | some u =>
      cases hb : look b n with
      | none => rfl
      | some v => simp only [joinOO, joinO]; rw [joinF_comm ((look_mem hb).2.trans (look_mem ha).2.symm)]
theorem join_again {a b x : List FactV} {r : Bool} (h : JoinVIs a b 0 x r) : JoinVIs x b 0 x false := by
  obtain ⟨h1, h2, h3, _⟩ := joinV_right h
  obtain ⟨m, q, k⟩ := joinV_of h3 h2
  have e : m = x := by
    refine look_inj (rightV_rise (joinV_right k).2.2.1) (rightV_rise h3) fun n => ?_
    rw [lookV k n, lookV h n]
    cases ha : look a n with
    | none =>
      cases hb : look b n with
      | none => rfl
      | some v => simp only [joinOO, joinO]; rw [joinF_idem]
    | some u =>
      cases hb : look b n with
      | none => rfl
      | some v => simp only [joinOO, joinO]; rw [joinF_again ((look_mem ha).2.trans (look_mem hb).2.symm)]
  subst e
  obtain ⟨_, _, _, p, hp, hr⟩ := joinV_right k
  have hn : ¬ p := fun x => not_news_self _ ((join_facts (rightV_rise h3) hp).2.2.1 x)
  exact .inr (.inr ⟨h3, h2, rfl, p, hp, by simp [hn]⟩)
theorem join_assocV {a b c x : List FactV} {r : Bool} (h : JoinVIs a b 0 x r) (hc : rightV c) : ∃ m1 r1 m2 r2 r3, JoinVIs x c 0 m1 r1 ∧ JoinVIs b c 0 m2 r2 ∧ JoinVIs a m2 0 m1 r3 := by
  obtain ⟨h1, h2, h3, _⟩ := joinV_right h
  obtain ⟨m1, r1, k1⟩ := joinV_of h3 hc
  obtain ⟨m2, r2, k2⟩ := joinV_of h2 hc
  obtain ⟨m3, r3, k3⟩ := joinV_of h1 (joinV_right k2).2.2.1
  have e : m3 = m1 := by
    refine look_inj (rightV_rise (joinV_right k3).2.2.1) (rightV_rise (joinV_right k1).2.2.1) fun n => ?_
    rw [lookV k3 n, lookV k2 n, lookV k1 n, lookV h n]
    cases ha : look a n with
    | none =>
      cases hb : look b n with
      | none => cases hc : look c n <;> rfl
      | some v => cases hc : look c n <;> rfl
    | some u =>
      cases hb : look b n with
      | none => cases hc : look c n <;> rfl
      | some v =>
        cases hc : look c n with
        | none => rfl
        | some y => simp only [joinOO, joinO]; rw [joinF_assoc]
  subst e
  exact ⟨m3, r1, m2, r2, r3, k1, k2, k3⟩
end Go.Proofs.Ytdgcmjhnglacnaa
