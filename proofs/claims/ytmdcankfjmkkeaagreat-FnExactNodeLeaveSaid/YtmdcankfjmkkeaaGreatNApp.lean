/- append of any row, nil or not, onto a row of one's own: facts, rumors, doubts, mails. -/
import Derived.Test.YtmdcankfjmkkeaaGreatG32
import Derived.Test.YtmdcankfjmkkeaaGreatNMails
import Derived.Test.YtmdcankfjmkkeaaGreatG16
import Derived.Maps.AppendAt
import Derived.Laws.AppendOwnNone
namespace Go.Proofs.YtmdcankfjmkkeaaGreat
open Go Go.RowKit
set_option linter.unusedVariables false

theorem run_append_any {P : Program} {w : World} (t ty e : TypeId) (i : TypeInfo) (z : Value) (size bytes : Nat) (ht : P.underlying t = some (.slice e)) (hi : P.info? e = some i) (hz : i.zero = some z) (hsize : i.size = size) (hby : i.bytes = bytes) (hzs : z.cells.size = size) (hsz : 0 < size) (hbb : bytes ≤ 100)
    (base : Nat) (v : Value) (n : Nat) (xs : List Value) (hown : w.ownsRow base e size v n xs) (a : Option Addr) (m cap : Nat) (hcap : a = none → cap = 0) (news : List Value) (hl : news.length = m * size) (hrow : CellRow w a news) (h1 : ∀ u ∈ news, u.oneCell' = true) (h63 : n + m ≤ 2000000) (hbase : base ≤ w.heap.size) :
    ∃ v' w', (Builtin.append_ #[t, t] ty #[v, .slice a m cap]).run P w = .ok v' w' ∧ w'.ownsRow base e size v' (n + m) (xs ++ news) ∧ w.grownBy w' v.ownBlock ∧ (v'.ownBlock = v.ownBlock ∨ v'.ownBlock = some w.heap.size) := by
  cases a with
  | none =>
    have hn : news = [] := by
      rcases hrow with h | ⟨_, _, e, _⟩
      · exact h
      · cases e
    subst hn
    have hm : m = 0 := by
      rcases Nat.mul_eq_zero.1 (show m * size = 0 from hl.symm) with h | h
      · exact h
      · omega
    subst hm
    obtain rfl := hcap rfl
    refine ⟨v, w, run_append_owned_none (P := P) (w := w) base t ty e i size ht hi v n xs hown, ?_, World.grownBy.refl _ _, .inl rfl⟩
    simpa using hown
  | some ad =>
    obtain ⟨v', w', hr, h2, h3, _, h5⟩ := run_append_own_at (P := P) w base t ty e i z size bytes ht hi hz hsize hby hzs hsz v n xs hown ad m cap news hl hrow.reads h1 (by unfold maxLen; omega) (by
      have : (n + m) * bytes ≤ 2000000 * 100 := Nat.mul_le_mul h63 hbb
      omega) hbase
    exact ⟨v', w', hr, h2, h3, h5⟩
theorem oneCellsM (l : List MailA) : ∀ v ∈ cellsOf MailA.cells l, v.oneCell' = true := by
  intro v hv
  obtain ⟨d, _, hd⟩ := List.mem_flatMap.1 hv
  unfold MailA.cells at hd
  simp only [List.mem_cons, List.not_mem_nil, or_false] at hd
  rcases hd with rfl | rfl | rfl | rfl | rfl | rfl | rfl <;> rfl
theorem Tryz.partsF : (Tryz.prog.info? 54).map (fun i => (i.zero, i.size, i.bytes)) = some (some (.agg #[.int .i64 0, .int .i64 0, .int .i64 0]), 3, 24) := by kernel_rfl
theorem run_appF {w : World} (base : Nat) (v : Value) (n : Nat) (xs : List Value) (hown : w.ownsRow base 54 3 v n xs) (a : Option Addr) (m cap : Nat) (hcap : a = none → cap = 0) (l : List FactV) (hm : l.length = m) (hrow : CellRow w a (cellsOf FactV.cells l)) (h63 : n + m ≤ 2000000) (hbase : base ≤ w.heap.size) :
    ∃ v' w', (Builtin.append_ #[23, 23] 23 #[v, .slice a m cap]).run Tryz.prog w = .ok v' w' ∧ w'.ownsRow base 54 3 v' (n + m) (xs ++ cellsOf FactV.cells l) ∧ w.grownBy w' v.ownBlock ∧ (v'.ownBlock = v.ownBlock ∨ v'.ownBlock = some w.heap.size) := by
  subst hm
  obtain ⟨i, hi, hz⟩ := Option.map_eq_some_iff.1 Tryz.partsF
  simp only [Prod.mk.injEq] at hz
  exact run_append_any 23 23 54 i _ 3 24 Tryz.underlying23 hi hz.1 hz.2.1 hz.2.2 rfl (by omega) (by omega) base v n xs hown a l.length cap hcap (cellsOf FactV.cells l) (cellsOf_length FactV.cells_len l) hrow (cellsOf_one l) h63 hbase
theorem appF {w : World} {op : Oper} {act : Act} {K : Act → World → Prop} {Q : Exit → Act → World → Prop} (hty : op.type = 23) (s x : Operand)
    (ho : op.op = .call { callee := .builtin .append, args := #[s, x], argTypes := #[23, 23] }) (base : Nat) (v : Value) (n : Nat) (xs : List Value) (hs : act.eval s = v) (hown : w.ownsRow base 54 3 v n xs)
    (a : Option Addr) (m cap : Nat) (hcap : a = none → cap = 0) (l : List FactV) (hm : l.length = m) (hx : act.eval x = .slice a m cap) (hrow : CellRow w a (cellsOf FactV.cells l)) (h63 : n + m ≤ 2000000) (hbase : base ≤ w.heap.size)
    (h : ∀ v' w', w'.ownsRow base 54 3 v' (n + m) (xs ++ cellsOf FactV.cells l) → w.grownBy w' v.ownBlock → (v'.ownBlock = v.ownBlock ∨ v'.ownBlock = some w.heap.size) → K (act.put op.dst v') w') : op.wp Tryz.prog act w K Q := by
  obtain ⟨v', w', hr, h2, h3, h5⟩ := run_appF base v n xs hown a m cap hcap l hm hrow h63 hbase
  unfold Oper.wp
  rw [exec_append s x _ _ ho v _ hs hx (by rw [hty]; exact hr)]
  exact h v' w' h2 h3 h5
theorem appFL {w : World} {ops : Array Oper} {rest : List Oper} {o : Oper} {act : Act} {Q : Exit → Act → World → Prop} (hgd : o.guard = none) (hty : o.type = 23) (s x : Operand)
    (ho : o.op = .call { callee := .builtin .append, args := #[s, x], argTypes := #[23, 23] }) (base : Nat) (v : Value) (n : Nat) (xs : List Value) (hs : act.eval s = v) (hown : w.ownsRow base 54 3 v n xs)
    (a : Option Addr) (m cap : Nat) (hcap : a = none → cap = 0) (l : List FactV) (hm : l.length = m) (hx : act.eval x = .slice a m cap) (hrow : CellRow w a (cellsOf FactV.cells l)) (h63 : n + m ≤ 2000000) (hbase : base ≤ w.heap.size)
    (h : ∀ v' w', w'.ownsRow base 54 3 v' (n + m) (xs ++ cellsOf FactV.cells l) → w.grownBy w' v.ownBlock → (v'.ownBlock = v.ownBlock ∨ v'.ownBlock = some w.heap.size) → wpList Tryz.prog ops Q rest (act.put o.dst v') w') : wpList Tryz.prog ops Q (o :: rest) act w :=
  wpList_plain hgd fun _ hK => appF hty s x ho base v n xs hs hown a m cap hcap l hm hx hrow h63 hbase fun v' w' h1 h2 h3 => hK _ _ (h v' w' h1 h2 h3)
theorem Tryz.partsR : (Tryz.prog.info? 59).map (fun i => (i.zero, i.size, i.bytes)) = some (some (.agg #[.int .i64 0, .int .i64 0, .int .i64 0, .int .i64 0]), 4, 32) := by kernel_rfl
theorem run_appR {w : World} (base : Nat) (v : Value) (n : Nat) (xs : List Value) (hown : w.ownsRow base 59 4 v n xs) (a : Option Addr) (m cap : Nat) (hcap : a = none → cap = 0) (l : List RumV) (hm : l.length = m) (hrow : CellRow w a (cellsOf RumV.cells l)) (h63 : n + m ≤ 2000000) (hbase : base ≤ w.heap.size) :
    ∃ v' w', (Builtin.append_ #[24, 24] 24 #[v, .slice a m cap]).run Tryz.prog w = .ok v' w' ∧ w'.ownsRow base 59 4 v' (n + m) (xs ++ cellsOf RumV.cells l) ∧ w.grownBy w' v.ownBlock ∧ (v'.ownBlock = v.ownBlock ∨ v'.ownBlock = some w.heap.size) := by
  subst hm
  obtain ⟨i, hi, hz⟩ := Option.map_eq_some_iff.1 Tryz.partsR
  simp only [Prod.mk.injEq] at hz
  exact run_append_any 24 24 59 i _ 4 32 Tryz.underlying24 hi hz.1 hz.2.1 hz.2.2 rfl (by omega) (by omega) base v n xs hown a l.length cap hcap (cellsOf RumV.cells l) (cellsOf_length RumV.cells_len l) hrow (cellsOf_oneR l) h63 hbase
theorem appR {w : World} {op : Oper} {act : Act} {K : Act → World → Prop} {Q : Exit → Act → World → Prop} (hty : op.type = 24) (s x : Operand)
    (ho : op.op = .call { callee := .builtin .append, args := #[s, x], argTypes := #[24, 24] }) (base : Nat) (v : Value) (n : Nat) (xs : List Value) (hs : act.eval s = v) (hown : w.ownsRow base 59 4 v n xs)
    (a : Option Addr) (m cap : Nat) (hcap : a = none → cap = 0) (l : List RumV) (hm : l.length = m) (hx : act.eval x = .slice a m cap) (hrow : CellRow w a (cellsOf RumV.cells l)) (h63 : n + m ≤ 2000000) (hbase : base ≤ w.heap.size)
    (h : ∀ v' w', w'.ownsRow base 59 4 v' (n + m) (xs ++ cellsOf RumV.cells l) → w.grownBy w' v.ownBlock → (v'.ownBlock = v.ownBlock ∨ v'.ownBlock = some w.heap.size) → K (act.put op.dst v') w') : op.wp Tryz.prog act w K Q := by
  obtain ⟨v', w', hr, h2, h3, h5⟩ := run_appR base v n xs hown a m cap hcap l hm hrow h63 hbase
  unfold Oper.wp
  rw [exec_append s x _ _ ho v _ hs hx (by rw [hty]; exact hr)]
  exact h v' w' h2 h3 h5
theorem appRL {w : World} {ops : Array Oper} {rest : List Oper} {o : Oper} {act : Act} {Q : Exit → Act → World → Prop} (hgd : o.guard = none) (hty : o.type = 24) (s x : Operand)
    (ho : o.op = .call { callee := .builtin .append, args := #[s, x], argTypes := #[24, 24] }) (base : Nat) (v : Value) (n : Nat) (xs : List Value) (hs : act.eval s = v) (hown : w.ownsRow base 59 4 v n xs)
    (a : Option Addr) (m cap : Nat) (hcap : a = none → cap = 0) (l : List RumV) (hm : l.length = m) (hx : act.eval x = .slice a m cap) (hrow : CellRow w a (cellsOf RumV.cells l)) (h63 : n + m ≤ 2000000) (hbase : base ≤ w.heap.size)
    (h : ∀ v' w', w'.ownsRow base 59 4 v' (n + m) (xs ++ cellsOf RumV.cells l) → w.grownBy w' v.ownBlock → (v'.ownBlock = v.ownBlock ∨ v'.ownBlock = some w.heap.size) → wpList Tryz.prog ops Q rest (act.put o.dst v') w') : wpList Tryz.prog ops Q (o :: rest) act w :=
  wpList_plain hgd fun _ hK => appR hty s x ho base v n xs hs hown a m cap hcap l hm hx hrow h63 hbase fun v' w' h1 h2 h3 => hK _ _ (h v' w' h1 h2 h3)
theorem Tryz.partsD : (Tryz.prog.info? 112).map (fun i => (i.zero, i.size, i.bytes)) = some (some (.agg #[.int .i64 0, .int .i64 0, .int .i64 0]), 3, 24) := by kernel_rfl
theorem run_appD {w : World} (base : Nat) (v : Value) (n : Nat) (xs : List Value) (hown : w.ownsRow base 112 3 v n xs) (a : Option Addr) (m cap : Nat) (hcap : a = none → cap = 0) (l : List FactV) (hm : l.length = m) (hrow : CellRow w a (cellsOf FactV.cells l)) (h63 : n + m ≤ 2000000) (hbase : base ≤ w.heap.size) :
    ∃ v' w', (Builtin.append_ #[30, 30] 30 #[v, .slice a m cap]).run Tryz.prog w = .ok v' w' ∧ w'.ownsRow base 112 3 v' (n + m) (xs ++ cellsOf FactV.cells l) ∧ w.grownBy w' v.ownBlock ∧ (v'.ownBlock = v.ownBlock ∨ v'.ownBlock = some w.heap.size) := by
  subst hm
  obtain ⟨i, hi, hz⟩ := Option.map_eq_some_iff.1 Tryz.partsD
  simp only [Prod.mk.injEq] at hz
  exact run_append_any 30 30 112 i _ 3 24 Tryz.underlying30 hi hz.1 hz.2.1 hz.2.2 rfl (by omega) (by omega) base v n xs hown a l.length cap hcap (cellsOf FactV.cells l) (cellsOf_length FactV.cells_len l) hrow (cellsOf_one l) h63 hbase
theorem appD {w : World} {op : Oper} {act : Act} {K : Act → World → Prop} {Q : Exit → Act → World → Prop} (hty : op.type = 30) (s x : Operand)
    (ho : op.op = .call { callee := .builtin .append, args := #[s, x], argTypes := #[30, 30] }) (base : Nat) (v : Value) (n : Nat) (xs : List Value) (hs : act.eval s = v) (hown : w.ownsRow base 112 3 v n xs)
    (a : Option Addr) (m cap : Nat) (hcap : a = none → cap = 0) (l : List FactV) (hm : l.length = m) (hx : act.eval x = .slice a m cap) (hrow : CellRow w a (cellsOf FactV.cells l)) (h63 : n + m ≤ 2000000) (hbase : base ≤ w.heap.size)
    (h : ∀ v' w', w'.ownsRow base 112 3 v' (n + m) (xs ++ cellsOf FactV.cells l) → w.grownBy w' v.ownBlock → (v'.ownBlock = v.ownBlock ∨ v'.ownBlock = some w.heap.size) → K (act.put op.dst v') w') : op.wp Tryz.prog act w K Q := by
  obtain ⟨v', w', hr, h2, h3, h5⟩ := run_appD base v n xs hown a m cap hcap l hm hrow h63 hbase
  unfold Oper.wp
  rw [exec_append s x _ _ ho v _ hs hx (by rw [hty]; exact hr)]
  exact h v' w' h2 h3 h5
theorem appDL {w : World} {ops : Array Oper} {rest : List Oper} {o : Oper} {act : Act} {Q : Exit → Act → World → Prop} (hgd : o.guard = none) (hty : o.type = 30) (s x : Operand)
    (ho : o.op = .call { callee := .builtin .append, args := #[s, x], argTypes := #[30, 30] }) (base : Nat) (v : Value) (n : Nat) (xs : List Value) (hs : act.eval s = v) (hown : w.ownsRow base 112 3 v n xs)
    (a : Option Addr) (m cap : Nat) (hcap : a = none → cap = 0) (l : List FactV) (hm : l.length = m) (hx : act.eval x = .slice a m cap) (hrow : CellRow w a (cellsOf FactV.cells l)) (h63 : n + m ≤ 2000000) (hbase : base ≤ w.heap.size)
    (h : ∀ v' w', w'.ownsRow base 112 3 v' (n + m) (xs ++ cellsOf FactV.cells l) → w.grownBy w' v.ownBlock → (v'.ownBlock = v.ownBlock ∨ v'.ownBlock = some w.heap.size) → wpList Tryz.prog ops Q rest (act.put o.dst v') w') : wpList Tryz.prog ops Q (o :: rest) act w :=
  wpList_plain hgd fun _ hK => appD hty s x ho base v n xs hs hown a m cap hcap l hm hx hrow h63 hbase fun v' w' h1 h2 h3 => hK _ _ (h v' w' h1 h2 h3)
theorem Tryz.partsM : (Tryz.prog.info? 40).map (fun i => (i.zero, i.size, i.bytes)) = some (some (.agg #[.int .i64 0, .int .i64 0, .int .i64 0, .int .i64 0, .int .i64 0, .int .i64 0, .slice none 0 0]), 7, 72) := by kernel_rfl
theorem run_appM {w : World} (base : Nat) (v : Value) (n : Nat) (xs : List Value) (hown : w.ownsRow base 40 7 v n xs) (a : Option Addr) (m cap : Nat) (hcap : a = none → cap = 0) (l : List MailA) (hm : l.length = m) (hrow : CellRow w a (cellsOf MailA.cells l)) (h63 : n + m ≤ 2000000) (hbase : base ≤ w.heap.size) :
    ∃ v' w', (Builtin.append_ #[35, 35] 35 #[v, .slice a m cap]).run Tryz.prog w = .ok v' w' ∧ w'.ownsRow base 40 7 v' (n + m) (xs ++ cellsOf MailA.cells l) ∧ w.grownBy w' v.ownBlock ∧ (v'.ownBlock = v.ownBlock ∨ v'.ownBlock = some w.heap.size) := by
  subst hm
  obtain ⟨i, hi, hz⟩ := Option.map_eq_some_iff.1 Tryz.partsM
  simp only [Prod.mk.injEq] at hz
  exact run_append_any 35 35 40 i _ 7 72 Tryz.underlying35 hi hz.1 hz.2.1 hz.2.2 rfl (by omega) (by omega) base v n xs hown a l.length cap hcap (cellsOf MailA.cells l) (cellsOf_length MailA.cells_len l) hrow (oneCellsM l) h63 hbase
theorem appM {w : World} {op : Oper} {act : Act} {K : Act → World → Prop} {Q : Exit → Act → World → Prop} (hty : op.type = 35) (s x : Operand)
    (ho : op.op = .call { callee := .builtin .append, args := #[s, x], argTypes := #[35, 35] }) (base : Nat) (v : Value) (n : Nat) (xs : List Value) (hs : act.eval s = v) (hown : w.ownsRow base 40 7 v n xs)
    (a : Option Addr) (m cap : Nat) (hcap : a = none → cap = 0) (l : List MailA) (hm : l.length = m) (hx : act.eval x = .slice a m cap) (hrow : CellRow w a (cellsOf MailA.cells l)) (h63 : n + m ≤ 2000000) (hbase : base ≤ w.heap.size)
    (h : ∀ v' w', w'.ownsRow base 40 7 v' (n + m) (xs ++ cellsOf MailA.cells l) → w.grownBy w' v.ownBlock → (v'.ownBlock = v.ownBlock ∨ v'.ownBlock = some w.heap.size) → K (act.put op.dst v') w') : op.wp Tryz.prog act w K Q := by
  obtain ⟨v', w', hr, h2, h3, h5⟩ := run_appM base v n xs hown a m cap hcap l hm hrow h63 hbase
  unfold Oper.wp
  rw [exec_append s x _ _ ho v _ hs hx (by rw [hty]; exact hr)]
  exact h v' w' h2 h3 h5
theorem appML {w : World} {ops : Array Oper} {rest : List Oper} {o : Oper} {act : Act} {Q : Exit → Act → World → Prop} (hgd : o.guard = none) (hty : o.type = 35) (s x : Operand)
    (ho : o.op = .call { callee := .builtin .append, args := #[s, x], argTypes := #[35, 35] }) (base : Nat) (v : Value) (n : Nat) (xs : List Value) (hs : act.eval s = v) (hown : w.ownsRow base 40 7 v n xs)
    (a : Option Addr) (m cap : Nat) (hcap : a = none → cap = 0) (l : List MailA) (hm : l.length = m) (hx : act.eval x = .slice a m cap) (hrow : CellRow w a (cellsOf MailA.cells l)) (h63 : n + m ≤ 2000000) (hbase : base ≤ w.heap.size)
    (h : ∀ v' w', w'.ownsRow base 40 7 v' (n + m) (xs ++ cellsOf MailA.cells l) → w.grownBy w' v.ownBlock → (v'.ownBlock = v.ownBlock ∨ v'.ownBlock = some w.heap.size) → wpList Tryz.prog ops Q rest (act.put o.dst v') w') : wpList Tryz.prog ops Q (o :: rest) act w :=
  wpList_plain hgd fun _ hK => appM hty s x ho base v n xs hs hown a m cap hcap l hm hx hrow h63 hbase fun v' w' h1 h2 h3 => hK _ _ (h v' w' h1 h2 h3)
/-- A mail in a block of its own. -/
theorem rowOneM {w : World} {b : Nat} {d : MailA} (h : BlkIs w b 40 #[.int .i64 d.k, .int .i64 d.f, .int .i64 d.t, .int .i64 d.n, .int .i64 d.a, .int .i64 d.r, .slice d.p d.l.length d.cap]) : CellRow w (some ⟨b, 0, none⟩) (cellsOf MailA.cells [d]) := by
  refine .inr ⟨b, 0, rfl, h.lt, fun i hi => ?_⟩
  have e : cellsOf MailA.cells [d] = d.cells := by simp [cellsOf]
  rw [Nat.zero_add, h.cell]
  have hi3 : i < 7 := by rw [e] at hi; exact hi
  match i, hi3 with
  | 0, _ => rfl
  | 1, _ => rfl
  | 2, _ => rfl
  | 3, _ => rfl
  | 4, _ => rfl
  | 5, _ => rfl
  | 6, _ => rfl
end Go.Proofs.YtmdcankfjmkkeaaGreat
