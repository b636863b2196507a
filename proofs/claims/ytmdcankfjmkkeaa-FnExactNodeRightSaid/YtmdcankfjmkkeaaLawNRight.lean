/- Proved: laws.FnExactNodeRight answers true at every node: NodeRight of the program and of the specification are one function, and write into no argument. No condition. -/
import Derived.Test.YtmdcankfjmkkeaaRows
import Derived.WalkKit
import Derived.ProofKit
import Derived.OpenShut
import Derived.ShutString
import Derived.ChangeOld
import Derived.Below
import Derived.Test.YtmdcankfjmkkeaaNSpecC
import Derived.Test.YtmdcankfjmkkeaaNImpl
namespace Go.Proofs.Ytmdcankfjmkkeaa
open Go Go.ChangeShapes Go.WideShapes Go.ChangeAt Go.RowKit
open Go.ChangeMaps (open_string shut_string)
set_option linter.unusedVariables false
set_option linter.unusedSimpArgs false

set_option maxHeartbeats 4000000 in
set_option maxRecDepth 100000 in
theorem FnExactNodeRight_walk (a0 : NodeA) (w : World) (w0 : NodeArg w a0) :
    Calls Try.prog 3 #[a0.val] w fun e w' => e = .returned (.bool true) ∧ Below w.heap.size w w' := by
  have hrow0 := w0.1
  have hroom0 := w0.2.1
  have hlm := w0.2.2.1
  obtain ⟨r, hr⟩ := tells_bool a0.n.ok
  obtain ⟨a, n⟩ := a0
  dsimp only at hrow0 hr hlm hroom0
  have HR : Hid (r = true ↔ n.ok) := hr
  clear hr w0
  have P := BlkIs.new w 31 #[.int .i64 n.id, .int .i64 n.inc, .int .i64 n.num, .int .i64 n.seed, .int .i64 n.next, .slice a.va n.view.length a.vc, .slice a.ra n.rum.length a.rc, .slice a.ta n.tl.length a.tc, .int .i64 n.at0, .int .i64 n.pb.node, .int .i64 n.pb.num, .int .i64 n.pb.due, .bool n.pb.asked, .slice a.da n.db.length a.dc]
  have B := (Below.refl w.heap.size w).alloc (Nat.le_refl _) (.cells #[.int .i64 n.id, .int .i64 n.inc, .int .i64 n.num, .int .i64 n.seed, .int .i64 n.next, .slice a.va n.view.length a.vc, .slice a.ra n.rum.length a.rc, .slice a.ta n.tl.length a.tc, .int .i64 n.at0, .int .i64 n.pb.node, .int .i64 n.pb.num, .int .i64 n.pb.due, .bool n.pb.asked, .slice a.da n.db.length a.dc] 31)
  have hrow := hrow0.keep B
  obtain ⟨W, hW⟩ : ∃ W, w.alloc (.cells #[.int .i64 n.id, .int .i64 n.inc, .int .i64 n.num, .int .i64 n.seed, .int .i64 n.next, .slice a.va n.view.length a.vc, .slice a.ra n.rum.length a.rc, .slice a.ta n.tl.length a.tc, .int .i64 n.at0, .int .i64 n.pb.node, .int .i64 n.pb.num, .int .i64 n.pb.due, .bool n.pb.asked, .slice a.da n.db.length a.dc] 31) = W := ⟨_, rfl⟩
  rw [hW] at P B hrow
  have HW : Hid (_ = W) := hW
  clear hW
  unfold NodeA.val nodeVal nodeCells
  go_enter Try.func3, Try.ntmps3
  go_upto_region 2 with fail
  rw [HW.out]
  clear HW
  have cc0 : W.cell? ⟨w.heap.size, 0, none⟩ = some (.int .i64 n.id) := P.cell 0
  have cc1 : W.cell? ⟨w.heap.size, 1, none⟩ = some (.int .i64 n.inc) := P.cell 1
  have cc2 : W.cell? ⟨w.heap.size, 2, none⟩ = some (.int .i64 n.num) := P.cell 2
  have cc3 : W.cell? ⟨w.heap.size, 3, none⟩ = some (.int .i64 n.seed) := P.cell 3
  have cc4 : W.cell? ⟨w.heap.size, 4, none⟩ = some (.int .i64 n.next) := P.cell 4
  have cc5 : W.cell? ⟨w.heap.size, 5, none⟩ = some (.slice a.va n.view.length a.vc) := P.cell 5
  have cc6 : W.cell? ⟨w.heap.size, 6, none⟩ = some (.slice a.ra n.rum.length a.rc) := P.cell 6
  have cc7 : W.cell? ⟨w.heap.size, 7, none⟩ = some (.slice a.ta n.tl.length a.tc) := P.cell 7
  have cc8 : W.cell? ⟨w.heap.size, 8, none⟩ = some (.int .i64 n.at0) := P.cell 8
  have cc9 : W.cell? ⟨w.heap.size, 9, none⟩ = some (.int .i64 n.pb.node) := P.cell 9
  have cc10 : W.cell? ⟨w.heap.size, 10, none⟩ = some (.int .i64 n.pb.num) := P.cell 10
  have cc11 : W.cell? ⟨w.heap.size, 11, none⟩ = some (.int .i64 n.pb.due) := P.cell 11
  have cc12 : W.cell? ⟨w.heap.size, 12, none⟩ = some (.bool n.pb.asked) := P.cell 12
  have cc13 : W.cell? ⟨w.heap.size, 13, none⟩ = some (.slice a.da n.db.length a.dc) := P.cell 13
  go_wp2_with fail
  refine (szNode_any ⟨a, n⟩ 1048576 _ (by omega) (by omega) hlm).mono ?_
  rintro e x1 ⟨q, rfl, hq, bb⟩
  clear cc0 cc1 cc2 cc3 cc4 cc5 cc6 cc7 cc8 cc9 cc10 cc11 cc12 cc13
  replace P := P.keep bb
  replace hrow := hrow.keep bb
  replace B := B.trans (bb.mono B.size)
  clear bb
  clear hlm
  rcases hq with rfl | ⟨hq0, _, hlen⟩
  · go_wp2
    go_ret
    exact ⟨rfl, B⟩
  have hq1 : ¬ q < 0 := by omega
  have HLEN : Hid (NodeLen n 1048576) := hlen
  clear hq0 hlen
  have cc0 : x1.cell? ⟨w.heap.size, 0, none⟩ = some (.int .i64 n.id) := P.cell 0
  have cc1 : x1.cell? ⟨w.heap.size, 1, none⟩ = some (.int .i64 n.inc) := P.cell 1
  have cc2 : x1.cell? ⟨w.heap.size, 2, none⟩ = some (.int .i64 n.num) := P.cell 2
  have cc3 : x1.cell? ⟨w.heap.size, 3, none⟩ = some (.int .i64 n.seed) := P.cell 3
  have cc4 : x1.cell? ⟨w.heap.size, 4, none⟩ = some (.int .i64 n.next) := P.cell 4
  have cc5 : x1.cell? ⟨w.heap.size, 5, none⟩ = some (.slice a.va n.view.length a.vc) := P.cell 5
  have cc6 : x1.cell? ⟨w.heap.size, 6, none⟩ = some (.slice a.ra n.rum.length a.rc) := P.cell 6
  have cc7 : x1.cell? ⟨w.heap.size, 7, none⟩ = some (.slice a.ta n.tl.length a.tc) := P.cell 7
  have cc8 : x1.cell? ⟨w.heap.size, 8, none⟩ = some (.int .i64 n.at0) := P.cell 8
  have cc9 : x1.cell? ⟨w.heap.size, 9, none⟩ = some (.int .i64 n.pb.node) := P.cell 9
  have cc10 : x1.cell? ⟨w.heap.size, 10, none⟩ = some (.int .i64 n.pb.num) := P.cell 10
  have cc11 : x1.cell? ⟨w.heap.size, 11, none⟩ = some (.int .i64 n.pb.due) := P.cell 11
  have cc12 : x1.cell? ⟨w.heap.size, 12, none⟩ = some (.bool n.pb.asked) := P.cell 12
  have cc13 : x1.cell? ⟨w.heap.size, 13, none⟩ = some (.slice a.da n.db.length a.dc) := P.cell 13
  go_wp2_with fail
  refine (toNode_any a n _ HLEN.out hrow).mono ?_
  rintro e x2 ⟨gv1, gr1, gt1, gd1, rfl, C1, bb⟩
  clear cc0 cc1 cc2 cc3 cc4 cc5 cc6 cc7 cc8 cc9 cc10 cc11 cc12 cc13
  replace P := P.keep bb
  replace hrow := hrow.keep bb
  replace B := B.trans (bb.mono B.size)
  clear bb
  have N1 : NodeRows x2 (n.copied gv1 gr1 gt1 gd1) n := ⟨C1.v.row, C1.r.row, C1.t.row, C1.d.row⟩
  have M1 : NodeRoom (n.copied gv1 gr1 gt1 gd1) n := ⟨Nat.le_refl _, Nat.le_refl _, Nat.le_refl _, Nat.le_refl _⟩
  clear C1
  have cc0 : x2.cell? ⟨w.heap.size, 0, none⟩ = some (.int .i64 n.id) := P.cell 0
  have cc1 : x2.cell? ⟨w.heap.size, 1, none⟩ = some (.int .i64 n.inc) := P.cell 1
  have cc2 : x2.cell? ⟨w.heap.size, 2, none⟩ = some (.int .i64 n.num) := P.cell 2
  have cc3 : x2.cell? ⟨w.heap.size, 3, none⟩ = some (.int .i64 n.seed) := P.cell 3
  have cc4 : x2.cell? ⟨w.heap.size, 4, none⟩ = some (.int .i64 n.next) := P.cell 4
  have cc5 : x2.cell? ⟨w.heap.size, 5, none⟩ = some (.slice a.va n.view.length a.vc) := P.cell 5
  have cc6 : x2.cell? ⟨w.heap.size, 6, none⟩ = some (.slice a.ra n.rum.length a.rc) := P.cell 6
  have cc7 : x2.cell? ⟨w.heap.size, 7, none⟩ = some (.slice a.ta n.tl.length a.tc) := P.cell 7
  have cc8 : x2.cell? ⟨w.heap.size, 8, none⟩ = some (.int .i64 n.at0) := P.cell 8
  have cc9 : x2.cell? ⟨w.heap.size, 9, none⟩ = some (.int .i64 n.pb.node) := P.cell 9
  have cc10 : x2.cell? ⟨w.heap.size, 10, none⟩ = some (.int .i64 n.pb.num) := P.cell 10
  have cc11 : x2.cell? ⟨w.heap.size, 11, none⟩ = some (.int .i64 n.pb.due) := P.cell 11
  have cc12 : x2.cell? ⟨w.heap.size, 12, none⟩ = some (.bool n.pb.asked) := P.cell 12
  have cc13 : x2.cell? ⟨w.heap.size, 13, none⟩ = some (.slice a.da n.db.length a.dc) := P.cell 13
  go_wp2_with fail
  refine (specNRight_is (n.copied gv1 gr1 gt1 gd1) n _ r HR.out HLEN.out M1 N1).mono ?_
  rintro e x3 ⟨rfl, bb⟩
  clear cc0 cc1 cc2 cc3 cc4 cc5 cc6 cc7 cc8 cc9 cc10 cc11 cc12 cc13
  replace P := P.keep bb
  replace hrow := hrow.keep bb
  replace N1 := N1.keep bb
  replace B := B.trans (bb.mono B.size)
  clear bb
  clear N1 M1
  have cc0 : x3.cell? ⟨w.heap.size, 0, none⟩ = some (.int .i64 n.id) := P.cell 0
  have cc1 : x3.cell? ⟨w.heap.size, 1, none⟩ = some (.int .i64 n.inc) := P.cell 1
  have cc2 : x3.cell? ⟨w.heap.size, 2, none⟩ = some (.int .i64 n.num) := P.cell 2
  have cc3 : x3.cell? ⟨w.heap.size, 3, none⟩ = some (.int .i64 n.seed) := P.cell 3
  have cc4 : x3.cell? ⟨w.heap.size, 4, none⟩ = some (.int .i64 n.next) := P.cell 4
  have cc5 : x3.cell? ⟨w.heap.size, 5, none⟩ = some (.slice a.va n.view.length a.vc) := P.cell 5
  have cc6 : x3.cell? ⟨w.heap.size, 6, none⟩ = some (.slice a.ra n.rum.length a.rc) := P.cell 6
  have cc7 : x3.cell? ⟨w.heap.size, 7, none⟩ = some (.slice a.ta n.tl.length a.tc) := P.cell 7
  have cc8 : x3.cell? ⟨w.heap.size, 8, none⟩ = some (.int .i64 n.at0) := P.cell 8
  have cc9 : x3.cell? ⟨w.heap.size, 9, none⟩ = some (.int .i64 n.pb.node) := P.cell 9
  have cc10 : x3.cell? ⟨w.heap.size, 10, none⟩ = some (.int .i64 n.pb.num) := P.cell 10
  have cc11 : x3.cell? ⟨w.heap.size, 11, none⟩ = some (.int .i64 n.pb.due) := P.cell 11
  have cc12 : x3.cell? ⟨w.heap.size, 12, none⟩ = some (.bool n.pb.asked) := P.cell 12
  have cc13 : x3.cell? ⟨w.heap.size, 13, none⟩ = some (.slice a.da n.db.length a.dc) := P.cell 13
  go_wp2_with fail
  refine (toNode_any a n _ HLEN.out hrow).mono ?_
  rintro e x4 ⟨gv3, gr3, gt3, gd3, rfl, C3, bb⟩
  clear cc0 cc1 cc2 cc3 cc4 cc5 cc6 cc7 cc8 cc9 cc10 cc11 cc12 cc13
  replace P := P.keep bb
  replace hrow := hrow.keep bb
  replace B := B.trans (bb.mono B.size)
  clear bb
  have N3 : NodeRows x4 (n.copied gv3 gr3 gt3 gd3) n := ⟨C3.v.row, C3.r.row, C3.t.row, C3.d.row⟩
  have M3 : NodeRoom (n.copied gv3 gr3 gt3 gd3) n := ⟨Nat.le_refl _, Nat.le_refl _, Nat.le_refl _, Nat.le_refl _⟩
  clear C3
  unfold nodeVal nodeCells NodeV.copied
  dsimp only
  have aX := (Below.refl x4.heap.size x4).alloc (Nat.le_refl _) (.cells #[.int .i64 n.id, .int .i64 n.inc, .int .i64 n.num, .int .i64 n.seed, .int .i64 n.next, .slice (some ⟨gv3, 0, none⟩) n.view.length n.view.length, .slice (some ⟨gr3, 0, none⟩) n.rum.length n.rum.length, .slice (some ⟨gt3, 0, none⟩) n.tl.length n.tl.length, .int .i64 n.at0, .int .i64 n.pb.node, .int .i64 n.pb.num, .int .i64 n.pb.due, .bool n.pb.asked, .slice (some ⟨gd3, 0, none⟩) n.db.length n.db.length] 40)
  have OX := BlkIs.new x4 40 #[.int .i64 n.id, .int .i64 n.inc, .int .i64 n.num, .int .i64 n.seed, .int .i64 n.next, .slice (some ⟨gv3, 0, none⟩) n.view.length n.view.length, .slice (some ⟨gr3, 0, none⟩) n.rum.length n.rum.length, .slice (some ⟨gt3, 0, none⟩) n.tl.length n.tl.length, .int .i64 n.at0, .int .i64 n.pb.node, .int .i64 n.pb.num, .int .i64 n.pb.due, .bool n.pb.asked, .slice (some ⟨gd3, 0, none⟩) n.db.length n.db.length]
  replace P := P.keep aX
  replace hrow := hrow.keep aX
  replace N3 := N3.keep aX
  replace B := B.trans (aX.mono B.size)
  have hxyX : x4.heap.size < (x4.alloc (.cells #[.int .i64 n.id, .int .i64 n.inc, .int .i64 n.num, .int .i64 n.seed, .int .i64 n.next, .slice (some ⟨gv3, 0, none⟩) n.view.length n.view.length, .slice (some ⟨gr3, 0, none⟩) n.rum.length n.rum.length, .slice (some ⟨gt3, 0, none⟩) n.tl.length n.tl.length, .int .i64 n.at0, .int .i64 n.pb.node, .int .i64 n.pb.num, .int .i64 n.pb.due, .bool n.pb.asked, .slice (some ⟨gd3, 0, none⟩) n.db.length n.db.length] 40)).heap.size := by simp
  obtain ⟨yX, hyX⟩ : ∃ y, x4.alloc (.cells #[.int .i64 n.id, .int .i64 n.inc, .int .i64 n.num, .int .i64 n.seed, .int .i64 n.next, .slice (some ⟨gv3, 0, none⟩) n.view.length n.view.length, .slice (some ⟨gr3, 0, none⟩) n.rum.length n.rum.length, .slice (some ⟨gt3, 0, none⟩) n.tl.length n.tl.length, .int .i64 n.at0, .int .i64 n.pb.node, .int .i64 n.pb.num, .int .i64 n.pb.due, .bool n.pb.asked, .slice (some ⟨gd3, 0, none⟩) n.db.length n.db.length] 40) = y := ⟨_, rfl⟩
  obtain ⟨kX, hkX⟩ : ∃ k, x4.heap.size = k := ⟨_, rfl⟩
  rw [hyX] at OX B hxyX P hrow N3
  rw [hkX] at OX hxyX
  have HYX : Hid (_ = yX) := hyX
  have HKX : Hid (x4.heap.size = kX) := hkX
  clear hyX aX
  go_upto_region 7 with fail
  rw [HYX.out]
  clear HYX hkX
  have cc0 : yX.cell? ⟨w.heap.size, 0, none⟩ = some (.int .i64 n.id) := P.cell 0
  have cc1 : yX.cell? ⟨w.heap.size, 1, none⟩ = some (.int .i64 n.inc) := P.cell 1
  have cc2 : yX.cell? ⟨w.heap.size, 2, none⟩ = some (.int .i64 n.num) := P.cell 2
  have cc3 : yX.cell? ⟨w.heap.size, 3, none⟩ = some (.int .i64 n.seed) := P.cell 3
  have cc4 : yX.cell? ⟨w.heap.size, 4, none⟩ = some (.int .i64 n.next) := P.cell 4
  have cc5 : yX.cell? ⟨w.heap.size, 5, none⟩ = some (.slice a.va n.view.length a.vc) := P.cell 5
  have cc6 : yX.cell? ⟨w.heap.size, 6, none⟩ = some (.slice a.ra n.rum.length a.rc) := P.cell 6
  have cc7 : yX.cell? ⟨w.heap.size, 7, none⟩ = some (.slice a.ta n.tl.length a.tc) := P.cell 7
  have cc8 : yX.cell? ⟨w.heap.size, 8, none⟩ = some (.int .i64 n.at0) := P.cell 8
  have cc9 : yX.cell? ⟨w.heap.size, 9, none⟩ = some (.int .i64 n.pb.node) := P.cell 9
  have cc10 : yX.cell? ⟨w.heap.size, 10, none⟩ = some (.int .i64 n.pb.num) := P.cell 10
  have cc11 : yX.cell? ⟨w.heap.size, 11, none⟩ = some (.int .i64 n.pb.due) := P.cell 11
  have cc12 : yX.cell? ⟨w.heap.size, 12, none⟩ = some (.bool n.pb.asked) := P.cell 12
  have cc13 : yX.cell? ⟨w.heap.size, 13, none⟩ = some (.slice a.da n.db.length a.dc) := P.cell 13
  have cc14 : yX.cell? ⟨kX, 0, none⟩ = some (.int .i64 n.id) := OX.cell 0
  have cc15 : yX.cell? ⟨kX, 1, none⟩ = some (.int .i64 n.inc) := OX.cell 1
  have cc16 : yX.cell? ⟨kX, 2, none⟩ = some (.int .i64 n.num) := OX.cell 2
  have cc17 : yX.cell? ⟨kX, 3, none⟩ = some (.int .i64 n.seed) := OX.cell 3
  have cc18 : yX.cell? ⟨kX, 4, none⟩ = some (.int .i64 n.next) := OX.cell 4
  have cc19 : yX.cell? ⟨kX, 5, none⟩ = some (.slice (some ⟨gv3, 0, none⟩) n.view.length n.view.length) := OX.cell 5
  have cc20 : yX.cell? ⟨kX, 6, none⟩ = some (.slice (some ⟨gr3, 0, none⟩) n.rum.length n.rum.length) := OX.cell 6
  have cc21 : yX.cell? ⟨kX, 7, none⟩ = some (.slice (some ⟨gt3, 0, none⟩) n.tl.length n.tl.length) := OX.cell 7
  have cc22 : yX.cell? ⟨kX, 8, none⟩ = some (.int .i64 n.at0) := OX.cell 8
  have cc23 : yX.cell? ⟨kX, 9, none⟩ = some (.int .i64 n.pb.node) := OX.cell 9
  have cc24 : yX.cell? ⟨kX, 10, none⟩ = some (.int .i64 n.pb.num) := OX.cell 10
  have cc25 : yX.cell? ⟨kX, 11, none⟩ = some (.int .i64 n.pb.due) := OX.cell 11
  have cc26 : yX.cell? ⟨kX, 12, none⟩ = some (.bool n.pb.asked) := OX.cell 12
  have cc27 : yX.cell? ⟨kX, 13, none⟩ = some (.slice (some ⟨gd3, 0, none⟩) n.db.length n.db.length) := OX.cell 13
  go_wp2_with fail
  refine (implNRight_is (n.copied gv3 gr3 gt3 gd3) n _ r HR.out HLEN.out M3 N3).mono ?_
  rintro e x5 ⟨rfl, bb⟩
  clear cc0 cc1 cc2 cc3 cc4 cc5 cc6 cc7 cc8 cc9 cc10 cc11 cc12 cc13 cc14 cc15 cc16 cc17 cc18 cc19 cc20 cc21 cc22 cc23 cc24 cc25 cc26 cc27
  replace P := P.keep bb
  replace hrow := hrow.keep bb
  replace N3 := N3.keep bb
  replace OX := OX.keep bb
  replace B := B.trans (bb.mono B.size)
  clear bb
  have cc0 : x5.cell? ⟨w.heap.size, 0, none⟩ = some (.int .i64 n.id) := P.cell 0
  have cc1 : x5.cell? ⟨w.heap.size, 1, none⟩ = some (.int .i64 n.inc) := P.cell 1
  have cc2 : x5.cell? ⟨w.heap.size, 2, none⟩ = some (.int .i64 n.num) := P.cell 2
  have cc3 : x5.cell? ⟨w.heap.size, 3, none⟩ = some (.int .i64 n.seed) := P.cell 3
  have cc4 : x5.cell? ⟨w.heap.size, 4, none⟩ = some (.int .i64 n.next) := P.cell 4
  have cc5 : x5.cell? ⟨w.heap.size, 5, none⟩ = some (.slice a.va n.view.length a.vc) := P.cell 5
  have cc6 : x5.cell? ⟨w.heap.size, 6, none⟩ = some (.slice a.ra n.rum.length a.rc) := P.cell 6
  have cc7 : x5.cell? ⟨w.heap.size, 7, none⟩ = some (.slice a.ta n.tl.length a.tc) := P.cell 7
  have cc8 : x5.cell? ⟨w.heap.size, 8, none⟩ = some (.int .i64 n.at0) := P.cell 8
  have cc9 : x5.cell? ⟨w.heap.size, 9, none⟩ = some (.int .i64 n.pb.node) := P.cell 9
  have cc10 : x5.cell? ⟨w.heap.size, 10, none⟩ = some (.int .i64 n.pb.num) := P.cell 10
  have cc11 : x5.cell? ⟨w.heap.size, 11, none⟩ = some (.int .i64 n.pb.due) := P.cell 11
  have cc12 : x5.cell? ⟨w.heap.size, 12, none⟩ = some (.bool n.pb.asked) := P.cell 12
  have cc13 : x5.cell? ⟨w.heap.size, 13, none⟩ = some (.slice a.da n.db.length a.dc) := P.cell 13
  have cc14 : x5.cell? ⟨kX, 0, none⟩ = some (.int .i64 n.id) := OX.cell 0
  have cc15 : x5.cell? ⟨kX, 1, none⟩ = some (.int .i64 n.inc) := OX.cell 1
  have cc16 : x5.cell? ⟨kX, 2, none⟩ = some (.int .i64 n.num) := OX.cell 2
  have cc17 : x5.cell? ⟨kX, 3, none⟩ = some (.int .i64 n.seed) := OX.cell 3
  have cc18 : x5.cell? ⟨kX, 4, none⟩ = some (.int .i64 n.next) := OX.cell 4
  have cc19 : x5.cell? ⟨kX, 5, none⟩ = some (.slice (some ⟨gv3, 0, none⟩) n.view.length n.view.length) := OX.cell 5
  have cc20 : x5.cell? ⟨kX, 6, none⟩ = some (.slice (some ⟨gr3, 0, none⟩) n.rum.length n.rum.length) := OX.cell 6
  have cc21 : x5.cell? ⟨kX, 7, none⟩ = some (.slice (some ⟨gt3, 0, none⟩) n.tl.length n.tl.length) := OX.cell 7
  have cc22 : x5.cell? ⟨kX, 8, none⟩ = some (.int .i64 n.at0) := OX.cell 8
  have cc23 : x5.cell? ⟨kX, 9, none⟩ = some (.int .i64 n.pb.node) := OX.cell 9
  have cc24 : x5.cell? ⟨kX, 10, none⟩ = some (.int .i64 n.pb.num) := OX.cell 10
  have cc25 : x5.cell? ⟨kX, 11, none⟩ = some (.int .i64 n.pb.due) := OX.cell 11
  have cc26 : x5.cell? ⟨kX, 12, none⟩ = some (.bool n.pb.asked) := OX.cell 12
  have cc27 : x5.cell? ⟨kX, 13, none⟩ = some (.slice (some ⟨gd3, 0, none⟩) n.db.length n.db.length) := OX.cell 13
  go_upto_region 10 with fail
  refine wp_region_held_drew (S := fun w' => Below x5.heap.size x5 w') (by kernel_rfl) ?hS0 (fun hHeld => ?_)
  case hS0 => exact (Below.refl _ _).drew
  refine takeG 0 (v := .agg #[.int .i64 n.id, .int .i64 n.inc, .int .i64 n.num, .int .i64 n.seed, .int .i64 n.next, .slice (some ⟨gv3, 0, none⟩) n.view.length n.view.length, .slice (some ⟨gr3, 0, none⟩) n.rum.length n.rum.length, .slice (some ⟨gt3, 0, none⟩) n.tl.length n.tl.length, .int .i64 n.at0, .int .i64 n.pb.node, .int .i64 n.pb.num, .int .i64 n.pb.due, .bool n.pb.asked, .slice (some ⟨gd3, 0, none⟩) n.db.length n.db.length]) rfl (by kernel_rfl) (by kernel_rfl) (by kernel_rfl) (by kernel_rfl) (fun _ _ _ h => h) ?hy (by assumption) ?_
  case hy => (intro w' hSw; have s0 := show w'.cell? ⟨kX, 0, none⟩ = some (.int .i64 n.id) from (OX.keep hSw).cell 0; (try dsimp only at s0); have s1 := show w'.cell? ⟨kX, 1, none⟩ = some (.int .i64 n.inc) from (OX.keep hSw).cell 1; (try dsimp only at s1); have s2 := show w'.cell? ⟨kX, 2, none⟩ = some (.int .i64 n.num) from (OX.keep hSw).cell 2; (try dsimp only at s2); have s3 := show w'.cell? ⟨kX, 3, none⟩ = some (.int .i64 n.seed) from (OX.keep hSw).cell 3; (try dsimp only at s3); have s4 := show w'.cell? ⟨kX, 4, none⟩ = some (.int .i64 n.next) from (OX.keep hSw).cell 4; (try dsimp only at s4); have s5 := show w'.cell? ⟨kX, 5, none⟩ = some (.slice (some ⟨gv3, 0, none⟩) n.view.length n.view.length) from (OX.keep hSw).cell 5; (try dsimp only at s5); have s6 := show w'.cell? ⟨kX, 6, none⟩ = some (.slice (some ⟨gr3, 0, none⟩) n.rum.length n.rum.length) from (OX.keep hSw).cell 6; (try dsimp only at s6); have s7 := show w'.cell? ⟨kX, 7, none⟩ = some (.slice (some ⟨gt3, 0, none⟩) n.tl.length n.tl.length) from (OX.keep hSw).cell 7; (try dsimp only at s7); have s8 := show w'.cell? ⟨kX, 8, none⟩ = some (.int .i64 n.at0) from (OX.keep hSw).cell 8; (try dsimp only at s8); have s9 := show w'.cell? ⟨kX, 9, none⟩ = some (.int .i64 n.pb.node) from (OX.keep hSw).cell 9; (try dsimp only at s9); have s10 := show w'.cell? ⟨kX, 10, none⟩ = some (.int .i64 n.pb.num) from (OX.keep hSw).cell 10; (try dsimp only at s10); have s11 := show w'.cell? ⟨kX, 11, none⟩ = some (.int .i64 n.pb.due) from (OX.keep hSw).cell 11; (try dsimp only at s11); have s12 := show w'.cell? ⟨kX, 12, none⟩ = some (.bool n.pb.asked) from (OX.keep hSw).cell 12; (try dsimp only at s12); have s13 := show w'.cell? ⟨kX, 13, none⟩ = some (.slice (some ⟨gd3, 0, none⟩) n.db.length n.db.length) from (OX.keep hSw).cell 13; (try dsimp only at s13); go_simp)
  try simp only [List.setIfInBounds_toArray, List.set_cons_zero, List.set_cons_succ]
  refine takeG 1 (v := .agg #[.int .i64 n.id, .int .i64 n.inc, .int .i64 n.num, .int .i64 n.seed, .int .i64 n.next, .slice a.va n.view.length a.vc, .slice a.ra n.rum.length a.rc, .slice a.ta n.tl.length a.tc, .int .i64 n.at0, .int .i64 n.pb.node, .int .i64 n.pb.num, .int .i64 n.pb.due, .bool n.pb.asked, .slice a.da n.db.length a.dc]) rfl (by kernel_rfl) (by kernel_rfl) (by kernel_rfl) (by kernel_rfl) (fun _ _ _ h => h) ?hy (by assumption) ?_
  case hy => (intro w' hSw; have s0 := show w'.cell? ⟨w.heap.size, 0, none⟩ = some (.int .i64 n.id) from (P.keep hSw).cell 0; (try dsimp only at s0); have s1 := show w'.cell? ⟨w.heap.size, 1, none⟩ = some (.int .i64 n.inc) from (P.keep hSw).cell 1; (try dsimp only at s1); have s2 := show w'.cell? ⟨w.heap.size, 2, none⟩ = some (.int .i64 n.num) from (P.keep hSw).cell 2; (try dsimp only at s2); have s3 := show w'.cell? ⟨w.heap.size, 3, none⟩ = some (.int .i64 n.seed) from (P.keep hSw).cell 3; (try dsimp only at s3); have s4 := show w'.cell? ⟨w.heap.size, 4, none⟩ = some (.int .i64 n.next) from (P.keep hSw).cell 4; (try dsimp only at s4); have s5 := show w'.cell? ⟨w.heap.size, 5, none⟩ = some (.slice a.va n.view.length a.vc) from (P.keep hSw).cell 5; (try dsimp only at s5); have s6 := show w'.cell? ⟨w.heap.size, 6, none⟩ = some (.slice a.ra n.rum.length a.rc) from (P.keep hSw).cell 6; (try dsimp only at s6); have s7 := show w'.cell? ⟨w.heap.size, 7, none⟩ = some (.slice a.ta n.tl.length a.tc) from (P.keep hSw).cell 7; (try dsimp only at s7); have s8 := show w'.cell? ⟨w.heap.size, 8, none⟩ = some (.int .i64 n.at0) from (P.keep hSw).cell 8; (try dsimp only at s8); have s9 := show w'.cell? ⟨w.heap.size, 9, none⟩ = some (.int .i64 n.pb.node) from (P.keep hSw).cell 9; (try dsimp only at s9); have s10 := show w'.cell? ⟨w.heap.size, 10, none⟩ = some (.int .i64 n.pb.num) from (P.keep hSw).cell 10; (try dsimp only at s10); have s11 := show w'.cell? ⟨w.heap.size, 11, none⟩ = some (.int .i64 n.pb.due) from (P.keep hSw).cell 11; (try dsimp only at s11); have s12 := show w'.cell? ⟨w.heap.size, 12, none⟩ = some (.bool n.pb.asked) from (P.keep hSw).cell 12; (try dsimp only at s12); have s13 := show w'.cell? ⟨w.heap.size, 13, none⟩ = some (.slice a.da n.db.length a.dc) from (P.keep hSw).cell 13; (try dsimp only at s13); go_simp)
  try simp only [List.setIfInBounds_toArray, List.set_cons_zero, List.set_cons_succ]
  refine runG 2 (by kernel_rfl) rfl (by kernel_rfl) ?_
  go_simp
  refine (toNode_any a n _ HLEN.out (hrow.keep hHeld)).mono ?_
  rintro e x6 ⟨gv4, gr4, gt4, gd4, rfl, C4, b4⟩
  have N4 : NodeRows x6 (n.copied gv4 gr4 gt4 gd4) n := ⟨C4.v.row, C4.r.row, C4.t.row, C4.d.row⟩
  have b5 : Below x5.heap.size x5 x6 := hHeld.trans (b4.mono hHeld.size)
  clear b4 C4
  refine ⟨b5, ?_⟩
  try simp only [Act.put, List.setIfInBounds_toArray, List.set_cons_zero, List.set_cons_succ]
  refine runG 3 (by kernel_rfl) rfl (by kernel_rfl) ?_
  go_simp
  refine (eqNode_same (n.copied gv3 gr3 gt3 gd3) (n.copied gv4 gr4 gt4 gd4) n _ HLEN.out (N3.keep b5) N4).mono ?_
  rintro e x7 ⟨rfl, b6⟩
  have bb : Below x5.heap.size x5 x7 := b5.trans (b6.mono b5.size)
  clear b6 b5
  refine ⟨bb, ?_⟩
  try simp only [Act.put, List.setIfInBounds_toArray, List.set_cons_zero, List.set_cons_succ]
  refine takeG 4 (v := .bool false) rfl (by kernel_rfl) (by kernel_rfl) (by kernel_rfl) (by kernel_rfl) (fun _ _ _ h => h) ?hy (by assumption) ?_
  case hy => (intro w' hSw; go_simp)
  try simp only [List.setIfInBounds_toArray, List.set_cons_zero, List.set_cons_succ]
  refine wpAnyH_done (by kernel_rfl) ?_ _
  clear N4 cc0 cc1 cc2 cc3 cc4 cc5 cc6 cc7 cc8 cc9 cc10 cc11 cc12 cc13 cc14 cc15 cc16 cc17 cc18 cc19 cc20 cc21 cc22 cc23 cc24 cc25 cc26 cc27
  replace P := P.keep bb
  replace hrow := hrow.keep bb
  replace N3 := N3.keep bb
  replace OX := OX.keep bb
  replace B := B.trans (bb.mono B.size)
  clear bb
  clear N3 OX
  go_wp2
  go_ret
  exact ⟨rfl, B⟩

set_option maxRecDepth 100000 in
theorem FnExactNodeRight_lifted (os : Os) (started : os.Started) (H : Type) (enc : TypeId × Value → H) :
    ReturnsInHanded {} Try.checked os 3 .any (Rows.fnExactNodeRightSpec.pre6 enc Try.prog Try.f3 Rows.fnExactNodeRightRow.domain false) (Rows.fnExactNodeRightSpec.post enc Try.prog Try.f3 false true false false) := by
  refine returnsInHanded_of_change (C := Try.checked) (by kernel_rfl) started (by kernel_rfl) Try.func3
    (ChangeSpec.witness6 (enc := enc) (C := Try.checked) false ⟨#[], #[.agg #[.int .i64 0, .int .i64 0, .int .i64 0, .int .i64 0, .int .i64 0, .slice none 0 0, .slice none 0 0, .slice none 0 0, .int .i64 0, .int .i64 0, .int .i64 0, .int .i64 0, .bool false, .slice none 0 0]], []⟩ 8 (by kernel_rfl) (by kernel_rfl) (by kernel_rfl) (by kernel_rfl)) ?_
  intro W base args ds gs before hval0 hW hcnd _
  have hval : ∀ (j : Nat) t v, Try.f3.params[j]? = some t → args[j]? = some v → Value.okWide Try.prog W .any base t v := hval0
  have hW' := hW
  obtain ⟨p, q, hA0, hV, rfl, hfz, hnd⟩ := hW
  have hA : DataW.TrodAll enc Try.prog W 0 (fun _ => true) true Try.f3.params.toList args.toList ds p := hA0
  rw [Try.params3] at hA hval
  obtain ⟨v0, vs0, d0, ds0, p0, q0, hargs, rfl, rfl, h0, r0⟩ := trodAll_cons hA
  obtain ⟨rfl, rfl, rfl⟩ := trodAll_nil r0
  obtain rfl : args = #[v0] := by cases args; simp_all
  obtain ⟨rfl, rfl⟩ := trodVars_none hV
  have k0 := h0
  have lt0 : ∀ x ∈ p0, x.block < W.heap.size := by obtain ⟨m, hm⟩ := k0; exact DataW.trod_lt m _ _ _ hm
  obtain ⟨a0, rfl, w0⟩ := nodeVal_open (hval 0 31 v0 rfl rfl) h0
  clear hA0 hval0
  refine (FnExactNodeRight_walk a0 W w0).mono fun e W' ⟨he, bel⟩ => ?_
  subst he
  exact ⟨_, rfl, _, _, _, [], _, [], hW', trodAll_mk1 (shut_bool Try.underlying4 _), (trodAll_cons_mk (Below.trod (show laidOutB Try.prog = true by kernel_rfl) (by kernel_rfl) (of_decide_eq_true (by kernel_rfl)) k0 bel lt0) trodAll_mk0), rfl, bel.frame _, fun h => by cases h⟩
/-- The statement. -/
theorem FnExactNodeRight_holds : Rows.FnExactNodeRightSaid :=
  OpenClaim.holds_of_wide 3 Try.f3 rfl rfl rfl rfl rfl rfl rfl ⟨rfl, rfl, rfl, rfl, rfl⟩ rfl rfl rfl rfl rfl (by kernel_rfl) Try.func3 (by kernel_rfl)
    (of_decide_eq_true (by kernel_rfl)) (by unfold Func.isWrapper; first | (rw [if_pos (by decide +kernel)]; kernel_rfl) | (rw [if_neg (by decide +kernel)]; exact ⟨rfl, rfl⟩))
    (fun os started H enc _ => FnExactNodeRight_lifted os started H enc)
#print axioms FnExactNodeRight_holds

end Go.Proofs.Ytmdcankfjmkkeaa
