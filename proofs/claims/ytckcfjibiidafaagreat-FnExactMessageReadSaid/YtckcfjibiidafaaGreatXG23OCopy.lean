/- The program's copies: each list in a row of its own. -/
import Derived.Test.YtckcfjibiidafaaGreatXG13OTree
import Derived.Test.YtckcfjibiidafaaGreatXG17FMsgT
import Derived.Test.YtckcfjibiidafaaGreatXG22Stab
import Derived.Test.YtckcfjibiidafaaGreatXG15FNestE
import Derived.Maps.AppendAt
import Derived.Test.YtckcfjibiidafaaGreatXG21Copy
import Derived.OrdersHeld
import Derived.Deep.RegionHeld3
namespace Go.Proofs.YtckcfjibiidafaaGreat
open Go.RowKit
theorem own_block {w : World} {B : Nat} {T : TypeId} {n : Nat} {v : Value} {vs : List Value} (h : w.ownsRow B T 1 v n vs) : (n = 0 ∧ v = .slice none 0 0) ∨ ∃ g cap rest, v = .slice (some ⟨g, 0, none⟩) n cap ∧ B ≤ g ∧ g < w.heap.size ∧ n ≤ cap ∧ cap ≤ maxLen ∧ n + rest.length = cap ∧ Row w g T (vs ++ rest) := by
  have hl := h.1
  have hlt := h.lt
  rcases h.2 with ⟨rfl, hn⟩ | ⟨g, cap, cur, rfl, hbg, hg, hnc, hcm, hcs, htake⟩
  · exact .inl ⟨hn, rfl⟩
  · refine .inr ⟨g, cap, cur.toList.drop n, rfl, hbg, (hlt g rfl).2, hnc, hcm, ?_, ?_⟩
    · rw [List.length_drop]; simp; omega
    · rw [Nat.mul_one] at htake
      have e : vs ++ cur.toList.drop n = cur.toList := by rw [← htake, List.take_append_drop]
      rw [e]
      simpa [Row] using hg
theorem grown_in {w w' : World} {row : Option Nat} {a b : Nat} (h : w.grownBy w' row) (hr : ∀ g, row = some g → b ≤ g ∨ g < a) : SameIn a b w w' := fun k h1 h2 hk => h.block k hk (fun e => by have := hr k e.symm; omega)
theorem own_below {w w' : World} {B n sz : Nat} {T : TypeId} {v : Value} {vs : List Value} (h : w.ownsRow B T sz v n vs) (hb : Below w.heap.size w w') : w'.ownsRow B T sz v n vs :=
  h.kept (row := none) ⟨hb.os, hb.tape, hb.output, hb.size, fun k hk _ => hb.block k hk⟩ (by cases hv : v.ownBlock <;> simp)
theorem Tryz.infoCopyString : (Tryz.prog.info? 9).map (fun i => (i.zero, i.size, i.bytes)) = some (some (.string ⟨#[]⟩), 1, 16) := by kernel_rfl
theorem Tryz.infoCopyComp : (Tryz.prog.info? 71).map (fun i => (i.zero, i.size, i.bytes)) = some (some (.agg #[.slice none 0 0]), 1, 24) := by kernel_rfl
theorem Tryz.infoCopyRep : (Tryz.prog.info? 69).map (fun i => (i.zero, i.size, i.bytes)) = some (some (.agg #[.slice none 0 0]), 1, 24) := by kernel_rfl
theorem Tryz.infoCopyField : (Tryz.prog.info? 54).map (fun i => (i.zero, i.size, i.bytes)) = some (some (.agg #[.slice none 0 0]), 1, 24) := by kernel_rfl
end Go.Proofs.YtckcfjibiidafaaGreat
/- The model's copy of a Field: each list in a row of its own. -/
namespace Go.Proofs.YtckcfjibiidafaaGreat
open Go.RowKit
theorem step_own {P : Program} {ops : Array Oper} {o : Oper} {a : Act} {w : World} {K : Act → World → Prop} {Q : Exit → Act → World → Prop} {E : Prop} (hgd : o.guard = none) (s x : Operand) (t : TypeId)
    (ho : o.op = .call { callee := .builtin .append, args := #[s, x], argTypes := #[t, t] })
    (base : Nat) (e : TypeId) (i : TypeInfo) (z : Value) (size bytes : Nat) (ht : P.underlying t = some (.slice e)) (hi : P.info? e = some i) (hz : i.zero = some z)
    (hsize : i.size = size) (hby : i.bytes = bytes) (hzs : z.cells.size = size) (hsz : 0 < size)
    (v : Value) (n : Nat) (xs : List Value) (hs : a.eval s = v) (hown : w.ownsRow base e size v n xs)
    (ad : Addr) (m c : Nat) (news : List Value) (hx : a.eval x = .slice (some ad) m c) (hl : news.length = m * size) (hnews : ∀ j u, news[j]? = some u → w.cell? (ad.add j) = some u) (h1 : ∀ u ∈ news, u.oneCell' = true)
    (h63 : n + m ≤ maxLen) (hbytes : (n + m) * bytes ≤ 140737488355328) (hbase : base ≤ w.heap.size)
    (h : ∀ v' w', w'.ownsRow base e size v' (n + m) (xs ++ news) → w.grownBy w' v.ownBlock → (v'.ownBlock = v.ownBlock ∨ v'.ownBlock = some w.heap.size) → K (a.put o.dst v') w') :
    if Region.wanted o (yielded ops a.tmps) = true then Oper.wp P o a w K Q else E := by
  have hw : Region.wanted o (yielded ops a.tmps) = true := by simp [Region.wanted, hgd]
  rw [if_pos hw]
  obtain ⟨v', w', hr, h2, h3, h4, h5⟩ := run_append_own_at (P := P) w base t o.type e i z size bytes ht hi hz hsize hby hzs hsz v n xs hown ad m c news hl hnews h1 h63 hbytes hbase
  unfold Oper.wp execOp
  simp only [ho, resolve, invoke, builtin, Sem.run_bind, Sem.run_pure, Result.andThen_ok, List.map_toArray, List.map_cons, List.map_nil, hs, hx, hr]
  exact h v' w' h2 h3 h5
theorem own_slice1 {w : World} {B : Nat} {T : TypeId} {sz n : Nat} {v : Value} {xs : List Value} (h : w.ownsRow B T sz v n xs) : ∃ p c, v = .slice p n c := by
  rcases h.2 with ⟨rfl, hn⟩ | ⟨g, cap, cur, rfl, _⟩
  · exact ⟨none, 0, by rw [hn]⟩
  · exact ⟨_, _, rfl⟩
theorem row_grown {w w' : World} {g B : Nat} {T : TypeId} {cs : List Value} {row : Option Nat} (h : Row w g T cs) (hg : w.grownBy w' row) (hr : ∀ k, row = Option.some k → B ≤ k) (hB : g < B) : Row w' g T cs := by
  unfold Row; rw [hg.block g h.lt (fun e => by have := hr g e.symm; omega)]; exact h
theorem comp_of_ownS {w : World} {B : Nat} {v : Value} {xs : List ByteArray} (h : OwnS 9 B w v xs) : OComp B w.heap.size w v xs := by
  obtain ⟨hx, ⟨b, c, rfl, hc, rfl⟩ | ⟨g, rest, rfl, hm, hB, hr⟩⟩ := h
  · exact ⟨_, _, rfl, Nat.zero_le _, hc, hx, fun h => absurd h (by simp)⟩
  · exact ⟨_, _, rfl, Nat.le_add_right _ _, hm, hx, fun _ => ⟨g, rest, rfl, hB, hr.lt, rfl, hr⟩⟩
theorem ol_of_own {α : Type} {R : Nat → Nat → World → Value → α → Prop} {w : World} {B k : Nat} {T : TypeId} {l : Value} {vs : List Value} {xs : List α} (h : w.ownsRow B T 1 l k vs) (hk : k = xs.length) (hl : vs.length = k)
    (hE : ∃ A B' : Nat → Nat, (∀ j (h1 : j < vs.length) (h2 : j < xs.length), B ≤ A j ∧ B' j ≤ w.heap.size ∧ (∀ g, l.ownBlock = some g → B' j ≤ g ∨ g < A j) ∧ R (A j) (B' j) w vs[j] xs[j]) ∧ ∀ i j, i < j → j < k → B' i ≤ A j) : OL T R B w.heap.size w l xs := by
  obtain ⟨A, B', hE, hD⟩ := hE
  rcases own_block h with ⟨hn, rfl⟩ | ⟨g, cap2, rest, rfl, hbg, hgs, hnc, hcm, hcr, hrow⟩
  · exact ⟨none, 0, by rw [← hk, hn], by omega, by unfold maxLen; omega, fun h => by omega⟩
  · exact ⟨_, _, by rw [hk], by omega, hcm, fun _ => ⟨g, vs, rest, A, B', rfl, hbg, hgs, hrow, by omega, fun i h1 h2 => by
      obtain ⟨f1, f2, f3, f4⟩ := hE i h1 h2
      exact ⟨f1, f2, f3 g rfl, f4⟩, fun i j h1 h2 => hD i j h1 (by omega)⟩⟩
theorem own_same {w w' : World} {B n sz : Nat} {T : TypeId} {v : Value} {xs : List Value} (h : w.ownsRow B T sz v n xs) (hs : ∀ k, B ≤ k → k < w.heap.size → w'.heap[k]? = w.heap[k]?) : w'.ownsRow B T sz v n xs := by
  have hlt := h.lt
  refine ⟨h.1, ?_⟩
  rcases h.2 with h | ⟨g, cap, cur, rfl, hbg, hg, hnc, hcm, hcs, htake⟩
  · exact .inl h
  · exact .inr ⟨g, cap, cur, rfl, hbg, (hs g hbg (hlt g rfl).2).trans hg, hnc, hcm, hcs, htake⟩
end Go.Proofs.YtckcfjibiidafaaGreat
