/-
  l15Draw and Drawn of the specification. (Written by wip/mkBuW.py.)
-/
import Derived.Test.YtiakongbiajlhaaBuS
import Derived.Test.YtiakongbiajlhaaRegI
namespace Go.Proofs.Ytiakongbiajlhaa.Bu
open Go.ChangeShapes Go.WideShapes Go.ChangeAt Go.RowKit
open Go.Proofs.Ytiakongbiajlhaa.Rg (upd waits wp_region_inv op_at)
set_option linter.unusedVariables false
theorem box_cells {w : World} {bl : Nat} {b : Rw} (x : Bo.Box w bl (rc b)) : ∀ j u, (rcells [b])[j]? = some u → w.cell? ((⟨bl, 0, none⟩ : Addr).add j) = some u := by
  intro j u hj
  match j, hj with
  | 0, hj => simp [rcells] at hj; subst hj; rw [Go.WideShapes.add_plain]; exact x.c 0 rfl
  | 1, hj => simp [rcells] at hj; subst hj; rw [Go.WideShapes.add_plain]; exact x.c 1 rfl
  | 2, hj => simp [rcells] at hj; subst hj; rw [Go.WideShapes.add_plain]; exact x.c 2 rfl
  | j + 3, hj => simp [rcells] at hj
/-- What holds while the region of three appends goes on, whatever has come up. -/
structure RA (gl cap n k gb gr cr d : Nat) (b : Rw) (LL : List Rw) (w0 : World) (L : Nat → Bool) (u6 u7 u64 u65 u66 u67 u68 u69 u70 u71 u72 u73 : Value) (W : World) : Prop where
  kb : Below w0.heap.size w0 W
  k0 : L 0 = true → L 4 = false → ∃ g : Nat, u64 = .slice (some ⟨g, 0, none⟩) 0 0 ∧ Own W w0.heap.size u64 [] ∧ g < W.heap.size ∧ (L 6 = true → ∀ bl : Nat, u70 = .slice (some ⟨bl, 0, none⟩) 1 1 → bl ≠ g)
  k1 : L 1 = true → u65 = .slice (some ⟨gl, 0, none⟩) n cap
  k2 : L 2 = true → u66 = .int .i64 k
  k3 : L 3 = true → u67 = .slice (some ⟨gl, 0, none⟩) k cap
  k4 : L 4 = true → L 7 = false → Own W w0.heap.size u68 (LL.take k)
  k5 : L 5 = true → u69 = rv b
  k6 : L 6 = true → L 7 = false → ∃ bl : Nat, u70 = .slice (some ⟨bl, 0, none⟩) 1 1 ∧ Bo.Box W bl (rc b)
  k7 : L 7 = true → L 9 = false → Own W w0.heap.size u71 (LL.take k ++ [b])
  k8 : L 8 = true → u72 = .slice (some ⟨gr, 0, none⟩) d cr
  k9 : L 9 = true → Own W w0.heap.size u73 (LL.take k ++ [b] ++ LL.drop k)
  k10 : L 10 = true → u6 = u73
  k11 : L 11 = true → u7 = .bool true
  p4 : L 4 = true → L 0 = true
  p7 : L 7 = true → L 4 = true ∧ L 6 = true
  p9 : L 9 = true → L 7 = true
  p10 : L 10 = true → L 9 = true
theorem RA.alloc {gl cap n k gb gr cr d : Nat} {b : Rw} {LL : List Rw} {w0 : World} {L : Nat → Bool} {u6 u7 u64 u65 u66 u67 u68 u69 u70 u71 u72 u73 : Value} {W : World} (h : RA gl cap n k gb gr cr d b LL w0 L u6 u7 u64 u65 u66 u67 u68 u69 u70 u71 u72 u73 W) (ob : Obj) : RA gl cap n k gb gr cr d b LL w0 L u6 u7 u64 u65 u66 u67 u68 u69 u70 u71 u72 u73 (W.alloc ob) :=
  ⟨h.kb.alloc h.kb.size ob, (fun q r => by obtain ⟨g, e, o, l, d⟩ := h.k0 q r; exact ⟨g, e, o.alloc ob, by simp; omega, d⟩), h.k1, h.k2, h.k3, (fun q r => (h.k4 q r).alloc ob), h.k5, (fun q r => by obtain ⟨bl, e, x⟩ := h.k6 q r; exact ⟨bl, e, x.alloc ob⟩), (fun q r => (h.k7 q r).alloc ob), h.k8, (fun q => (h.k9 q).alloc ob), h.k10, h.k11, h.p4, h.p7, h.p9, h.p10⟩
theorem RA.s0 {gl cap n k gb gr cr d : Nat} {b : Rw} {LL : List Rw} {w0 : World} {L : Nat → Bool} {u6 u7 u64 u65 u66 u67 u68 u69 u70 u71 u72 u73 : Value} {v : Value} {W : World} (h : RA gl cap n k gb gr cr d b LL w0 L u6 u7 u64 u65 u66 u67 u68 u69 u70 u71 u72 u73 W) (h4 : L 4 = false) (hv : ∃ g : Nat, v = .slice (some ⟨g, 0, none⟩) 0 0 ∧ Own W w0.heap.size v [] ∧ g < W.heap.size ∧ (L 6 = true → ∀ bl : Nat, u70 = .slice (some ⟨bl, 0, none⟩) 1 1 → bl ≠ g)) : RA gl cap n k gb gr cr d b LL w0 (upd L 0) u6 u7 v u65 u66 u67 u68 u69 u70 u71 u72 u73 W :=
  ⟨h.kb, (fun _ _ => hv), h.k1, h.k2, h.k3, h.k4, h.k5, h.k6, h.k7, h.k8, h.k9, h.k10, h.k11, (fun _ => rfl), h.p7, h.p9, h.p10⟩
theorem RA.s1 {gl cap n k gb gr cr d : Nat} {b : Rw} {LL : List Rw} {w0 : World} {L : Nat → Bool} {u6 u7 u64 u65 u66 u67 u68 u69 u70 u71 u72 u73 : Value} {v : Value} {W : World} (h : RA gl cap n k gb gr cr d b LL w0 L u6 u7 u64 u65 u66 u67 u68 u69 u70 u71 u72 u73 W) (hv : v = .slice (some ⟨gl, 0, none⟩) n cap) : RA gl cap n k gb gr cr d b LL w0 (upd L 1) u6 u7 u64 v u66 u67 u68 u69 u70 u71 u72 u73 W :=
  ⟨h.kb, h.k0, (fun _ => hv), h.k2, h.k3, h.k4, h.k5, h.k6, h.k7, h.k8, h.k9, h.k10, h.k11, h.p4, h.p7, h.p9, h.p10⟩
theorem RA.s2 {gl cap n k gb gr cr d : Nat} {b : Rw} {LL : List Rw} {w0 : World} {L : Nat → Bool} {u6 u7 u64 u65 u66 u67 u68 u69 u70 u71 u72 u73 : Value} {v : Value} {W : World} (h : RA gl cap n k gb gr cr d b LL w0 L u6 u7 u64 u65 u66 u67 u68 u69 u70 u71 u72 u73 W) (hv : v = .int .i64 k) : RA gl cap n k gb gr cr d b LL w0 (upd L 2) u6 u7 u64 u65 v u67 u68 u69 u70 u71 u72 u73 W :=
  ⟨h.kb, h.k0, h.k1, (fun _ => hv), h.k3, h.k4, h.k5, h.k6, h.k7, h.k8, h.k9, h.k10, h.k11, h.p4, h.p7, h.p9, h.p10⟩
theorem RA.s3 {gl cap n k gb gr cr d : Nat} {b : Rw} {LL : List Rw} {w0 : World} {L : Nat → Bool} {u6 u7 u64 u65 u66 u67 u68 u69 u70 u71 u72 u73 : Value} {v : Value} {W : World} (h : RA gl cap n k gb gr cr d b LL w0 L u6 u7 u64 u65 u66 u67 u68 u69 u70 u71 u72 u73 W) (hv : v = .slice (some ⟨gl, 0, none⟩) k cap) : RA gl cap n k gb gr cr d b LL w0 (upd L 3) u6 u7 u64 u65 u66 v u68 u69 u70 u71 u72 u73 W :=
  ⟨h.kb, h.k0, h.k1, h.k2, (fun _ => hv), h.k4, h.k5, h.k6, h.k7, h.k8, h.k9, h.k10, h.k11, h.p4, h.p7, h.p9, h.p10⟩
theorem RA.s5 {gl cap n k gb gr cr d : Nat} {b : Rw} {LL : List Rw} {w0 : World} {L : Nat → Bool} {u6 u7 u64 u65 u66 u67 u68 u69 u70 u71 u72 u73 : Value} {v : Value} {W : World} (h : RA gl cap n k gb gr cr d b LL w0 L u6 u7 u64 u65 u66 u67 u68 u69 u70 u71 u72 u73 W) (hv : v = rv b) : RA gl cap n k gb gr cr d b LL w0 (upd L 5) u6 u7 u64 u65 u66 u67 u68 v u70 u71 u72 u73 W :=
  ⟨h.kb, h.k0, h.k1, h.k2, h.k3, h.k4, (fun _ => hv), h.k6, h.k7, h.k8, h.k9, h.k10, h.k11, h.p4, h.p7, h.p9, h.p10⟩
theorem RA.s8 {gl cap n k gb gr cr d : Nat} {b : Rw} {LL : List Rw} {w0 : World} {L : Nat → Bool} {u6 u7 u64 u65 u66 u67 u68 u69 u70 u71 u72 u73 : Value} {v : Value} {W : World} (h : RA gl cap n k gb gr cr d b LL w0 L u6 u7 u64 u65 u66 u67 u68 u69 u70 u71 u72 u73 W) (hv : v = .slice (some ⟨gr, 0, none⟩) d cr) : RA gl cap n k gb gr cr d b LL w0 (upd L 8) u6 u7 u64 u65 u66 u67 u68 u69 u70 u71 v u73 W :=
  ⟨h.kb, h.k0, h.k1, h.k2, h.k3, h.k4, h.k5, h.k6, h.k7, (fun _ => hv), h.k9, h.k10, h.k11, h.p4, h.p7, h.p9, h.p10⟩
theorem RA.s6 {gl cap n k gb gr cr d : Nat} {b : Rw} {LL : List Rw} {w0 : World} {L : Nat → Bool} {u6 u7 u64 u65 u66 u67 u68 u69 u70 u71 u72 u73 : Value} {W : World} (h : RA gl cap n k gb gr cr d b LL w0 L u6 u7 u64 u65 u66 u67 u68 u69 u70 u71 u72 u73 W) (h7 : L 7 = false) (T : TypeId) : RA gl cap n k gb gr cr d b LL w0 (upd L 6) u6 u7 u64 u65 u66 u67 u68 u69 (.slice (some ⟨W.heap.size, 0, none⟩) 1 1) u71 u72 u73 (W.alloc (.cells (rc b) T)) :=
  ⟨h.kb.alloc h.kb.size _, (fun q r => by obtain ⟨g, e, o, l, _⟩ := h.k0 q r; exact ⟨g, e, o.alloc _, by simp; omega, fun _ bl e2 => by cases e2; omega⟩), h.k1, h.k2, h.k3, (fun q r => (h.k4 q r).alloc _), h.k5, (fun _ _ => ⟨_, rfl, Bo.Box.new W (rc b) T⟩), (fun q r => (h.k7 q r).alloc _), h.k8, (fun q => (h.k9 q).alloc _), h.k10, h.k11, h.p4, (fun q => by rw [show upd L 6 7 = L 7 from rfl, h7] at q; cases q), h.p9, h.p10⟩
theorem RA.s10 {gl cap n k gb gr cr d : Nat} {b : Rw} {LL : List Rw} {w0 : World} {L : Nat → Bool} {u6 u7 u64 u65 u66 u67 u68 u69 u70 u71 u72 u73 : Value} {v : Value} {W : World} (h : RA gl cap n k gb gr cr d b LL w0 L u6 u7 u64 u65 u66 u67 u68 u69 u70 u71 u72 u73 W) (h9 : L 9 = true) (hv : v = u73) : RA gl cap n k gb gr cr d b LL w0 (upd L 10) v u7 u64 u65 u66 u67 u68 u69 u70 u71 u72 u73 W :=
  ⟨h.kb, h.k0, h.k1, h.k2, h.k3, h.k4, h.k5, h.k6, h.k7, h.k8, h.k9, (fun _ => hv), h.k11, h.p4, h.p7, h.p9, (fun _ => h9)⟩
theorem RA.s11 {gl cap n k gb gr cr d : Nat} {b : Rw} {LL : List Rw} {w0 : World} {L : Nat → Bool} {u6 u7 u64 u65 u66 u67 u68 u69 u70 u71 u72 u73 : Value} {v : Value} {W : World} (h : RA gl cap n k gb gr cr d b LL w0 L u6 u7 u64 u65 u66 u67 u68 u69 u70 u71 u72 u73 W) (hv : v = .bool true) : RA gl cap n k gb gr cr d b LL w0 (upd L 11) u6 v u64 u65 u66 u67 u68 u69 u70 u71 u72 u73 W :=
  ⟨h.kb, h.k0, h.k1, h.k2, h.k3, h.k4, h.k5, h.k6, h.k7, h.k8, h.k9, h.k10, (fun _ => hv), h.p4, h.p7, h.p9, h.p10⟩
theorem RA.s4 {gl cap n k gb gr cr d : Nat} {b : Rw} {LL : List Rw} {w0 : World} {L : Nat → Bool} {u6 u7 u64 u65 u66 u67 u68 u69 u70 u71 u72 u73 : Value} {v : Value} {W W' : World} (h : RA gl cap n k gb gr cr d b LL w0 L u6 u7 u64 u65 u66 u67 u68 u69 u70 u71 u72 u73 W) (h0 : L 0 = true) (h7 : L 7 = false) (h9 : L 9 = false) (hx : ∀ bl : Nat, u70 = .slice (some ⟨bl, 0, none⟩) 1 1 → L 6 = true → Bo.Box W bl (rc b) → Bo.Box W' bl (rc b)) (hk : Below w0.heap.size w0 W') (hv : Own W' w0.heap.size v (LL.take k)) : RA gl cap n k gb gr cr d b LL w0 (upd L 4) u6 u7 u64 u65 u66 u67 v u69 u70 u71 u72 u73 W' :=
  ⟨hk, (fun _ q => by cases q), h.k1, h.k2, h.k3, (fun _ _ => hv), h.k5, (fun q r => by obtain ⟨bl, e, x⟩ := h.k6 q r; exact ⟨bl, e, hx bl e q x⟩), (fun q => by rw [show upd L 4 7 = L 7 from rfl, h7] at q; cases q), h.k8, (fun q => by rw [show upd L 4 9 = L 9 from rfl, h9] at q; cases q), h.k10, h.k11, (fun _ => h0), (fun q => by rw [show upd L 4 7 = L 7 from rfl, h7] at q; cases q), h.p9, h.p10⟩
theorem RA.s7 {gl cap n k gb gr cr d : Nat} {b : Rw} {LL : List Rw} {w0 : World} {L : Nat → Bool} {u6 u7 u64 u65 u66 u67 u68 u69 u70 u71 u72 u73 : Value} {v : Value} {W W' : World} (h : RA gl cap n k gb gr cr d b LL w0 L u6 u7 u64 u65 u66 u67 u68 u69 u70 u71 u72 u73 W) (h4 : L 4 = true) (h6 : L 6 = true) (h9 : L 9 = false) (hk : Below w0.heap.size w0 W') (hv : Own W' w0.heap.size v (LL.take k ++ [b])) : RA gl cap n k gb gr cr d b LL w0 (upd L 7) u6 u7 u64 u65 u66 u67 u68 u69 u70 v u72 u73 W' :=
  ⟨hk, (fun _ q => by rw [show upd L 7 4 = L 4 from rfl, h4] at q; cases q), h.k1, h.k2, h.k3, (fun _ q => by cases q), h.k5, (fun _ q => by cases q), (fun _ _ => hv), h.k8, (fun q => by rw [show upd L 7 9 = L 9 from rfl, h9] at q; cases q), h.k10, h.k11, h.p4, (fun _ => ⟨h4, h6⟩), (fun q => by rw [show upd L 7 9 = L 9 from rfl, h9] at q; cases q), h.p10⟩
theorem RA.s9 {gl cap n k gb gr cr d : Nat} {b : Rw} {LL : List Rw} {w0 : World} {L : Nat → Bool} {u6 u7 u64 u65 u66 u67 u68 u69 u70 u71 u72 u73 : Value} {v : Value} {W W' : World} (h : RA gl cap n k gb gr cr d b LL w0 L u6 u7 u64 u65 u66 u67 u68 u69 u70 u71 u72 u73 W) (h7 : L 7 = true) (h10 : L 10 = false) (hk : Below w0.heap.size w0 W') (hv : Own W' w0.heap.size v (LL.take k ++ [b] ++ LL.drop k)) : RA gl cap n k gb gr cr d b LL w0 (upd L 9) u6 u7 u64 u65 u66 u67 u68 u69 u70 u71 u72 v W' :=
  ⟨hk, (fun _ q => by rw [show upd L 9 4 = L 4 from rfl, (h.p7 h7).1] at q; cases q), h.k1, h.k2, h.k3, (fun _ q => by rw [show upd L 9 7 = L 7 from rfl, h7] at q; cases q), h.k5, (fun _ q => by rw [show upd L 9 7 = L 7 from rfl, h7] at q; cases q), (fun _ q => by cases q), h.k8, (fun _ => hv), (fun q => by rw [show upd L 9 10 = L 10 from rfl, h10] at q; cases q), h.k11, h.p4, h.p7, (fun _ => h7), (fun q => by rw [show upd L 9 10 = L 10 from rfl, h10] at q; cases q)⟩
def JA (gl cap n k gb gr cr d : Nat) (b : Rw) (LL : List Rw) (w0 : World) (y1 y2 y3 y4 y5 y8 y9 y13 y14 y15 y16 y17 y18 y19 y20 y21 y22 y23 y24 y25 y26 y27 y28 y29 y30 y31 y32 y33 y34 y35 y36 y37 y38 y39 y40 y41 y42 y43 y44 y45 y46 y47 y48 y49 y50 y51 y52 y53 y54 y55 y56 y57 y58 y59 y60 y61 y62 y63 : Value) (L : Nat → Bool) (a : Act) (W : World) : Prop := ∃ u6 u7 u64 u65 u66 u67 u68 u69 u70 u71 u72 u73 : Value, a = ⟨(.slice (some ⟨gl, 0, none⟩) n cap :: y1 :: y2 :: y3 :: y4 :: y5 :: u6 :: u7 :: y8 :: y9 :: .pointer (some ⟨gb, 0, none⟩) :: .int .i64 k :: .slice (some ⟨gr, 0, none⟩) d cr :: y13 :: y14 :: y15 :: y16 :: y17 :: y18 :: y19 :: y20 :: y21 :: y22 :: y23 :: y24 :: y25 :: y26 :: y27 :: y28 :: y29 :: y30 :: y31 :: y32 :: y33 :: y34 :: y35 :: y36 :: y37 :: y38 :: y39 :: y40 :: y41 :: y42 :: y43 :: y44 :: y45 :: y46 :: y47 :: y48 :: y49 :: y50 :: y51 :: y52 :: y53 :: y54 :: y55 :: y56 :: y57 :: y58 :: y59 :: y60 :: y61 :: y62 :: y63 :: u64 :: u65 :: u66 :: u67 :: u68 :: u69 :: u70 :: u71 :: u72 :: u73 :: []).toArray, []⟩ ∧ RA gl cap n k gb gr cr d b LL w0 L u6 u7 u64 u65 u66 u67 u68 u69 u70 u71 u72 u73 W
set_option maxRecDepth 100000 in
set_option maxHeartbeats 8000000 in
theorem spec_l15Draw (gl cap : Nat) (L : List Rw) (s now : Int) (w : World) (base : Nat) (h : Own w base (.slice (some ⟨gl, 0, none⟩) L.length cap) L) (hok : okB L = true) (hb : base ≤ w.heap.size) :
    Calls Try.prog 30 #[.slice (some ⟨gl, 0, none⟩) L.length cap, .int .i64 s, .int .i64 now] w fun e w' => ∃ v, e = .returned (.tuple #[v, .bool (goes L s now)]) ∧ Own w' base v (if goes L s now then drawL L s now else L) ∧ Below base w w' := by
  obtain ⟨i0, hi0, hz0, hz1, hz2⟩ := info_parts infoRw
  obtain ⟨a', c', ev, hn1, hn2, hRd, _⟩ := h.form
  cases ev
  have hl := okB_len hok
  have CL := hidIt (fun W (r : Rd W (some ⟨gl, 0, none⟩) L) => spec_l15Left (some ⟨gl, 0, none⟩) cap L s now W r hok)
  have CA := hidIt (fun W (r : Rd W (some ⟨gl, 0, none⟩) L) => spec_l15At (some ⟨gl, 0, none⟩) cap L s W r (by omega))
  have HO := hidIt h
  have HR := hidIt hRd
  have hgl := (World.ownsRow.lt h gl rfl).2
  have hgl2 := (World.ownsRow.lt h gl rfl).1
  have PL := hidIt (fun k => plc_is (L := L) (s := s) (k := k))
  have PB := hidIt (fun j (e : bat L s = some j) => (bat_some e).1)
  have HG : Hid (goes L s now = (decide (1 ≤ leftR L s now) && ((bat L s).isSome || decide (L.length ≠ 20)))) := hidIt rfl
  have HD : Hid (drawL L s now = match bat L s with
    | some j => L.set j (s, leftR L s now - 1, now)
    | none => L.take (plc L s) ++ [(s, leftR L s now - 1, now)] ++ L.drop (plc L s)) := hidIt rfl
  have hle := left_le L s now
  clear h hRd hok
  generalize goes L s now = go at HG ⊢
  generalize drawL L s now = DL at HD ⊢
  generalize leftR L s now = lf at CL HG HD hle
  generalize bat L s = at0 at CA HG HD PB
  generalize hn : L.length = n at *
  have HN := hidIt hn
  clear hn
  by_cases h1 : lf < 1
  · have eg : go = false := by rw [HG.out, decide_eq_false (by omega)]; rfl
    subst eg
    go_enter Try.func30, Try.ntmps30
    go_wp2_with (fail)
    refine (CL.out _ HR.out).mono ?_
    rintro e W1 ⟨rfl, kk⟩
    have HB := hidIt kk
    replace HR := hidIt (HR.out.kept kk)
    replace HO := hidIt (HO.out.kept kk)
    clear kk
    go_wp2_with (fail)
    refine (CA.out _ HR.out).mono ?_
    rintro e W2 ⟨rfl, ew⟩
    rw [ew]
    clear ew W2
    go_wp2_with (fail)
    refine bodyPost_ret (v := .tuple #[.slice (some ⟨gl, 0, none⟩) n cap, .bool false]) (by simp [results, Try.results30, go_sem]) rfl ⟨_, rfl, HO.out, HB.out.mono hb⟩
  have hlf : ¬ lf < 1 := h1
  have hwl : ¬ 9223372036854775807 < lf - 1 := by omega
  have hwl2 : ¬ lf - 1 < -9223372036854775808 := by omega
  cases at0 with
  | some j =>
    have eg : go = true := by rw [HG.out, decide_eq_true (by omega)]; rfl
    subst eg
    have ed : DL = L.set j (s, lf - 1, now) := HD.out
    have hj := PB.out j rfl
    subst ed
    have hbi : bi (some j) = (j : Int) := rfl
    rw [hbi] at CA
    have hneg : ¬ (j : Int) < 0 := by omega
    have hpos : (0 : Int) ≤ (j : Int) := by omega
    have hjn : (j : Int) < (n : Int) := by omega
    go_enter Try.func30, Try.ntmps30
    go_wp2_with (fail)
    refine (CL.out _ HR.out).mono ?_
    rintro e W1 ⟨rfl, kk⟩
    have HB := hidIt kk
    replace HR := hidIt (HR.out.kept kk)
    replace HO := hidIt (HO.out.kept kk)
    have hszW := kk.size
    clear kk
    go_wp2_with (fail)
    refine (CA.out _ HR.out).mono ?_
    rintro e W2 ⟨rfl, ew⟩
    rw [ew]
    clear ew W2
    have HOz := hidIt (HO.out.alloc (.cells #[.int .i64 s, .int .i64 (lf - 1), .int .i64 now] 46))
    have HBz := hidIt (HB.out.alloc HB.out.size (.cells #[.int .i64 s, .int .i64 (lf - 1), .int .i64 now] 46))
    have hgl3 : ¬ gl = W1.heap.size := by omega
    have q0 := HOz.out.at (i := j) (j := 0) (by rw [HN.out]; exact hj) (by omega)
    have q1 := HOz.out.at (i := j) (j := 1) (by rw [HN.out]; exact hj) (by omega)
    have q2 := HOz.out.at (i := j) (j := 2) (by rw [HN.out]; exact hj) (by omega)
    have f0 := HOz.out.free (j * 3)
    have f1 := HOz.out.free (j * 3 + 1)
    have f2 := HOz.out.free (j * 3 + 2)
    rw [Nat.add_zero] at q0
    simp only [rcell] at q0 q1 q2
    have HO3 := hidIt (HOz.out.whole (i := j) (by rw [HN.out]; exact hj) (s, lf - 1, now))
    have HB3 := hidIt ((((HBz.out.mono hb).setCell (p := ⟨gl, j * 3, none⟩) hgl2 (.int .i64 s)).setCell (p := ⟨gl, j * 3 + 1, none⟩) hgl2 (.int .i64 (lf - 1))).setCell (p := ⟨gl, j * 3 + 2, none⟩) hgl2 (.int .i64 now))
    go_wp2_with (fail)
    refine bodyPost_ret (v := .tuple #[.slice (some ⟨gl, 0, none⟩) n cap, .bool true]) (by simp [results, Try.results30, go_sem]) rfl ⟨_, rfl, ?_, HB3.out⟩
    exact HO3.out
  | none =>
    have hbi : bi none = -1 := rfl
    rw [hbi] at CA
    by_cases h20 : n = 20
    · have eg : go = false := by rw [HG.out, h20, decide_eq_true (by omega)]; rfl
      subst eg
      have h20' : ((n : Int) == 20) = true := by rw [h20]; rfl
      clear h20
      go_enter Try.func30, Try.ntmps30
      go_wp2_with (fail)
      refine (CL.out _ HR.out).mono ?_
      rintro e W1 ⟨rfl, kk⟩
      have HB := hidIt kk
      replace HR := hidIt (HR.out.kept kk)
      replace HO := hidIt (HO.out.kept kk)
      clear kk
      go_wp2_with (fail)
      refine (CA.out _ HR.out).mono ?_
      rintro e W2 ⟨rfl, ew⟩
      rw [ew]
      clear ew W2
      go_wp2_with (fail)
      refine bodyPost_ret (v := .tuple #[.slice (some ⟨gl, 0, none⟩) n cap, .bool false]) (by simp [results, Try.results30, go_sem]) rfl ⟨_, rfl, HO.out, HB.out.mono hb⟩
    have eg : go = true := by rw [HG.out, decide_eq_true (by omega), decide_eq_true (p := n ≠ 20) h20]; rfl
    subst eg
    have ed : DL = L.take (plc L s) ++ [(s, lf - 1, now)] ++ L.drop (plc L s) := HD.out
    have h20' : ((n : Int) == 20) = false := by simp; omega
    have hroom : n < 20 := by omega
    clear h20
    go_enter Try.func30, Try.ntmps30
    go_wp2_with (fail)
    refine (CL.out _ HR.out).mono ?_
    rintro e W1 ⟨rfl, kk⟩
    have HB := hidIt kk
    replace HR := hidIt (HR.out.kept kk)
    replace HO := hidIt (HO.out.kept kk)
    have hszW := kk.size
    clear kk
    go_wp2_with (fail)
    refine (CA.out _ HR.out).mono ?_
    rintro e W2 ⟨rfl, ew⟩
    rw [ew]
    clear ew W2
    have HOz := hidIt (HO.out.alloc (.cells #[.int .i64 s, .int .i64 (lf - 1), .int .i64 now] 46))
    have HBz := hidIt (HB.out.alloc HB.out.size (.cells #[.int .i64 s, .int .i64 (lf - 1), .int .i64 now] 46))
    have HRz := hidIt (HR.out.alloc (.cells #[.int .i64 s, .int .i64 (lf - 1), .int .i64 now] 46))
    have BX := hidIt (Bo.Box.new W1 #[.int .i64 s, .int .i64 (lf - 1), .int .i64 now] 46)
    go_wp2_with (fail)
    go_loopw [11] (fun y wx => ∃ i : Nat, y = .int .i64 i ∧ i ≤ n ∧ Hid (∀ j, j < i → sat L j < s) ∧ Hid (wx = W1.alloc (.cells #[.int .i64 s, .int .i64 (lf - 1), .int .i64 now] 46))) (fun y _ => (n - intOf y).toNat)
    case atStart => exact ⟨0, rfl, by omega, hidIt (fun j hj => by omega), hidIt rfl⟩
    case round =>
      obtain ⟨k, rfl, hk, HE, HW⟩ := hrel
      have eW := HW.out
      subst eW
      have after : plc L s = k → True := fun _ => trivial
      by_cases hin : k < n
      · have hin' : (k : Int) < (n : Int) := by omega
        obtain ⟨b', off', ea, c0, _, _⟩ := HRz.out.all (i := k) (by rw [HN.out]; exact hin)
        cases ea
        simp only [Nat.zero_add] at c0
        have hk0 : Hid (sat L k = (rat L k).1) := hidIt rfl
        obtain ⟨x, hx⟩ : ∃ x, (rat L k).1 = x := ⟨_, rfl⟩
        rw [hx] at c0 hk0
        clear hx
        by_cases hlt : x < s
        · have HE2 : Hid (∀ j, j < k + 1 → sat L j < s) := hidIt (fun j hj => by
            rcases Nat.lt_succ_iff_lt_or_eq.1 hj with h | h
            · exact HE.out j h
            · subst h; rw [hk0.out]; exact hlt)
          have hd : decide (x < s) = true := decide_eq_true hlt
          go_wp2_with (fail)
          first
            | exact ⟨⟨k + 1, by simp, by omega, HE2, hidIt rfl⟩, by simp [intOf]; omega⟩
            | exact ⟨⟨k + 1, by simp, by omega, HE2, hidIt trivial⟩, by simp [intOf]; omega⟩
        · have ep := PL.out k (by omega) HE.out (fun _ => by rw [hk0.out]; omega)
          have hd : decide (x < s) = false := decide_eq_false hlt
          rw [ep] at ed
          have hkc : (k : Int) ≤ (n : Int) := by omega
          have hk0' : (0 : Int) ≤ (k : Int) := by omega
          have HE0 : Hid (World.ownsRow ((W1.alloc (.cells #[.int .i64 s, .int .i64 (lf - 1), .int .i64 now] 46)).alloc (.cells #[] 46)) (W1.heap.size + 1) 46 3 (.slice (some ⟨W1.heap.size + 1, 0, none⟩) 0 0) 0 []) := hidIt (by have := Own.new (W1.alloc (.cells #[.int .i64 s, .int .i64 (lf - 1), .int .i64 now] 46)); simpa [Own, rcells] using this)
          have HRy := hidIt (HRz.out.alloc (.cells #[] 46))
          have HBy := hidIt (HBz.out.alloc HBz.out.size (.cells #[] 46))
          have BXy := hidIt (BX.out.alloc (.cells #[] 46))
          have hOB : ¬ (some gl = some (W1.heap.size + 1)) := by simp; omega
          have HC2 : Hid (∀ j u, (rcells (L.drop k))[j]? = some u → ((W1.alloc (.cells #[.int .i64 s, .int .i64 (lf - 1), .int .i64 now] 46)).alloc (.cells #[] 46)).cell? ((⟨gl, k * 3, none⟩ : Addr).add j) = some u) := hidIt ((HOz.out.alloc (.cells #[] 46)).piece k (by rw [HN.out]; omega))
          have hdl : (L.drop k).length = n - k := by rw [List.length_drop, HN.out]
          have key : ∀ (Q : Prop), (k = cap → Q) → (¬ k = cap → Q) → Q := fun Q x y => by
            by_cases h : k = cap
            · exact x h
            · exact y h
          have hcp : ¬ k = cap := by omega
          go_wp2_with (first | (at_builtin; refine wpList_append_own _ rfl _ _ 24 rfl (W1.heap.size + 1) 46 i0 (.agg #[.int .i64 0, .int .i64 0, .int .i64 0]) 3 24 Try.underlying24 hi0 hz0 hz1 hz2 rfl (by decide) _ _ _ rfl HE0.out ⟨gl, k * 3, none⟩ (n - k) (cap - k) (rcells (L.drop k)) rfl (by rw [rcells_length, hdl]) HC2.out (rcells_one _) (by unfold maxLen; omega) (by omega) (by simp <;> omega) ?_) | fail)
          intro v' w9 hown hgrow hnil
          have HO9 : Hid (Own w9 (W1.heap.size + 1) v' (L.drop k)) := hidIt (by unfold Own; rw [hdl]; exact hown)
          have hv : v' ≠ .slice none 0 0 := by first | exact hnil | (intro e; have := (hnil.1 e).1; cases this)
          obtain ⟨gr, cr, ev, hr1, hr2, hr3, hr4⟩ := HO9.out.some_form hv
          rw [List.length_drop, HN.out] at ev hr1
          obtain ⟨d, hd⟩ : ∃ d, n - k = d := ⟨_, rfl⟩
          rw [hd] at ev hr1
          have HDd := hidIt hd
          clear hd
          subst ev
          have kk9 := grown_below (show Own ((W1.alloc (.cells #[.int .i64 s, .int .i64 (lf - 1), .int .i64 now] 46)).alloc (.cells #[] 46)) (W1.heap.size + 1) (.slice (some ⟨W1.heap.size + 1, 0, none⟩) 0 0) [] from HE0.out) hgrow (Nat.le_refl _) (by simp <;> omega)
          have hsz9 : W1.heap.size + 2 ≤ w9.heap.size := by have := kk9.size; simp at this; omega
          have HS1 : Hid (∀ j u, (rcells (L.take k))[j]? = some u → w9.cell? ((⟨gl, 0, none⟩ : Addr).add j) = some u) := hidIt (fun j u hj => by
            rw [kk9.cell (by rw [Go.WideShapes.add_plain]; show gl < _; omega)]
            exact (HOz.out.alloc (.cells #[] 46)).front k (by rw [HN.out]; omega) j u hj)
          have HBX : Hid (w9.cell? ⟨W1.heap.size, 0, none⟩ = some (.int .i64 s) ∧ w9.cell? ⟨W1.heap.size, 1, none⟩ = some (.int .i64 (lf - 1)) ∧ w9.cell? ⟨W1.heap.size, 2, none⟩ = some (.int .i64 now)) := hidIt ⟨by rw [kk9.cell (Nat.lt_succ_self _)]; exact BXy.out.c 0 rfl, by rw [kk9.cell (Nat.lt_succ_self _)]; exact BXy.out.c 1 rfl, by rw [kk9.cell (Nat.lt_succ_self _)]; exact BXy.out.c 2 rfl⟩
          have HS2 : Hid (∀ j u, (rcells (L.drop k))[j]? = some u → w9.cell? ((⟨gr, 0, none⟩ : Addr).add j) = some u) := hidIt (by
            obtain ⟨a1, c1, e1, _, _, r1, _⟩ := HO9.out.form
            simp only [Value.slice.injEq] at e1
            rw [← e1.1] at r1
            exact r1.cells)
          have Hfl : Hid (gl < w9.heap.size) := hidIt (by omega)
          have Hfb : Hid (W1.heap.size < w9.heap.size) := hidIt (by omega)
          have Hfr : Hid (gr < w9.heap.size) := hidIt hr4
          have HB9 := hidIt (HBy.out.trans (kk9.mono (by omega)))
          have hkcap : (k : Int) ≤ (cap : Int) := by omega
          clear hown hgrow hnil kk9 hr1 hr2 hr3 hr4 HE0 HRy HBy BXy HC2 HO9 hv
          go_wp2_with (fail)
          refine wp_region_inv (by kernel_rfl) (by kernel_rfl) (JA gl cap n k W1.heap.size gr cr d (s, lf - 1, now) L w9 _ _ _ _ _ _ _ _ _ _ _ _ _ _ _ _ _ _ _ _ _ _ _ _ _ _ _ _ _ _ _ _ _ _ _ _ _ _ _ _ _ _ _ _ _ _ _ _ _ _ _ _ _ _ _ _ _ _) ⟨_, _, _, _, _, _, _, _, _, _, _, _, rfl, ⟨(Below.refl _ _).drew, (fun q => by cases q), (fun q => by cases q), (fun q => by cases q), (fun q => by cases q), (fun q => by cases q), (fun q => by cases q), (fun q => by cases q), (fun q => by cases q), (fun q => by cases q), (fun q => by cases q), (fun q => by cases q), (fun q => by cases q), (fun q => by cases q), (fun q => by cases q), (fun q => by cases q), (fun q => by cases q)⟩⟩ ?_ ?_
          case refine_1 =>
            intro Lb a' W i hi hI hL hD
            have hcases : i = 0 ∨ i = 1 ∨ i = 2 ∨ i = 3 ∨ i = 4 ∨ i = 5 ∨ i = 6 ∨ i = 7 ∨ i = 8 ∨ i = 9 ∨ i = 10 ∨ i = 11 := by simp at hi; omega
            clear hi
            obtain ⟨u6, u7, u64, u65, u66, u67, u68, u69, u70, u71, u72, u73, rfl, h⟩ := hI
            rcases hcases with rfl | rfl | rfl | rfl | rfl | rfl | rfl | rfl | rfl | rfl | rfl | rfl
            · skip
              have h4 : Lb 4 = false := by
                cases q : Lb 4 with
                | false => rfl
                | true => have z := h.p4 q; rw [hL] at z; cases z
              have h7f : Lb 7 = false := by
                cases q : Lb 7 with
                | false => rfl
                | true => have z := (h.p7 q).1; rw [h4] at z; cases z
              refine op_at rfl (fun K hK => ?_)
              go_simp
              refine hK _ _ ?_
              exact ⟨_, _, _, _, _, _, _, _, _, _, _, _, rfl, (h.alloc _).s0 h4 ⟨_, rfl, (Own.new W).mono h.kb.size, by simp, fun q bl e => by obtain ⟨bl2, e2, x⟩ := h.k6 q (h7f); rw [e2] at e; cases e; have := x.lt; omega⟩⟩
            · skip
              refine op_at rfl (fun K hK => ?_)
              go_simp
              refine hK _ _ ?_
              exact ⟨_, _, _, _, _, _, _, _, _, _, _, _, rfl, h.s1 rfl⟩
            · skip
              refine op_at rfl (fun K hK => ?_)
              go_simp
              refine hK _ _ ?_
              exact ⟨_, _, _, _, _, _, _, _, _, _, _, _, rfl, h.s2 rfl⟩
            · skip
              have e1 := h.k1 (hD 1 (by kernel_rfl))
              have e2 := h.k2 (hD 2 (by kernel_rfl))
              subst e1 e2
              refine op_at rfl (fun K hK => ?_)
              go_simp
              refine hK _ _ ?_
              exact ⟨_, _, _, _, _, _, _, _, _, _, _, _, rfl, h.s3 rfl⟩
            · skip
              have h0 := hD 0 (by kernel_rfl)
              have e3 := h.k3 (hD 3 (by kernel_rfl))
              have h7 : Lb 7 = false := by
                cases q : Lb 7 with
                | false => rfl
                | true => have z := (h.p7 q).1; rw [hL] at z; cases z
              have h9 : Lb 9 = false := by
                cases q : Lb 9 with
                | false => rfl
                | true => have z := h.p9 q; rw [h7] at z; cases z
              obtain ⟨g, eg, og, lg, dg⟩ := h.k0 h0 hL
              subst e3 eg
              refine op_at rfl (fun K hK => ?_)
              refine step_append (by rfl) (.tmp 64) (.tmp 67) (by rfl) w9.heap.size _ [] (L.take k) (by simp [Act.eval]) og ⟨gl, 0, none⟩ k cap (by rw [List.length_take, HN.out]; omega) (by simp [Act.eval]) (fun j u hj => by rw [h.kb.cell (by rw [Go.WideShapes.add_plain]; exact Hfl.out)]; exact HS1.out j u hj) (by simp; omega) h.kb.size ?_
              intro v' w' hown hgrow _
              refine hK _ _ ?_
              exact ⟨_, _, _, _, _, _, _, _, _, _, _, _, rfl, h.s4 h0 h7 h9 (fun bl e q x => by have hne := dg q bl e; exact ⟨Nat.lt_of_lt_of_le x.lt hgrow.size, fun i => by rw [World.cell?_of_block (w := W) (hgrow.block bl x.lt (by simpa [Value.ownBlock] using hne))]; exact x.at' i, fun i => by rw [World.frozen?_of_block (w := W) (hgrow.block bl x.lt (by simpa [Value.ownBlock] using hne))]; exact x.fr i⟩) (h.kb.trans (grown_below og hgrow (Nat.le_refl _) h.kb.size)) hown⟩
            · skip
              obtain ⟨q0, q1, q2⟩ := HBX.out
              have r0 : W.cell? ⟨W1.heap.size, 0, none⟩ = some (.int .i64 s) := by rw [h.kb.cell (by simpa using Hfb.out)]; exact q0
              have r1 : W.cell? ⟨W1.heap.size, 1, none⟩ = some (.int .i64 (lf - 1)) := by rw [h.kb.cell (by simpa using Hfb.out)]; exact q1
              have r2 : W.cell? ⟨W1.heap.size, 2, none⟩ = some (.int .i64 now) := by rw [h.kb.cell (by simpa using Hfb.out)]; exact q2
              clear q0 q1 q2
              refine op_at rfl (fun K hK => ?_)
              go_simp
              refine hK _ _ ?_
              exact ⟨_, _, _, _, _, _, _, _, _, _, _, _, rfl, h.s5 rfl⟩
            · skip
              have e5 := h.k5 (hD 5 (by kernel_rfl))
              subst e5
              have h7 : Lb 7 = false := by
                cases q : Lb 7 with
                | false => rfl
                | true => have z := (h.p7 q).2; rw [hL] at z; cases z
              refine op_at rfl (fun K hK => ?_)
              go_simp
              refine hK _ _ ?_
              exact ⟨_, _, _, _, _, _, _, _, _, _, _, _, rfl, h.s6 h7 46⟩
            · skip
              have h4 := hD 4 (by kernel_rfl)
              have h6 := hD 6 (by kernel_rfl)
              have h9 : Lb 9 = false := by
                cases q : Lb 9 with
                | false => rfl
                | true => have z := h.p9 q; rw [hL] at z; cases z
              have o4 := h.k4 h4 hL
              obtain ⟨bl, e6, x6⟩ := h.k6 h6 hL
              subst e6
              refine op_at rfl (fun K hK => ?_)
              refine step_append (by rfl) (.tmp 68) (.tmp 70) (by rfl) w9.heap.size _ (L.take k) [(s, lf - 1, now)] (by simp [Act.eval]) o4 ⟨bl, 0, none⟩ 1 1 rfl (by simp [Act.eval]) (fun j u hj => box_cells x6 j u hj) (by rw [List.length_take, HN.out]; omega) h.kb.size ?_
              intro v' w' hown hgrow _
              refine hK _ _ ?_
              exact ⟨_, _, _, _, _, _, _, _, _, _, _, _, rfl, h.s7 h4 h6 h9 (h.kb.trans (grown_below o4 hgrow (Nat.le_refl _) h.kb.size)) hown⟩
            · skip
              refine op_at rfl (fun K hK => ?_)
              go_simp
              refine hK _ _ ?_
              exact ⟨_, _, _, _, _, _, _, _, _, _, _, _, rfl, h.s8 rfl⟩
            · skip
              have h7 := hD 7 (by kernel_rfl)
              have e8 := h.k8 (hD 8 (by kernel_rfl))
              have h10 : Lb 10 = false := by
                cases q : Lb 10 with
                | false => rfl
                | true => have z := h.p10 q; rw [hL] at z; cases z
              have o7 := h.k7 h7 hL
              subst e8
              refine op_at rfl (fun K hK => ?_)
              refine step_append (by rfl) (.tmp 71) (.tmp 72) (by rfl) w9.heap.size _ (L.take k ++ [(s, lf - 1, now)]) (L.drop k) (by simp [Act.eval]) o7 ⟨gr, 0, none⟩ d cr (by rw [List.length_drop, HN.out]; exact HDd.out) (by simp [Act.eval]) (fun j u hj => by rw [h.kb.cell (by rw [Go.WideShapes.add_plain]; exact Hfr.out)]; exact HS2.out j u hj) (by have := HDd.out; rw [List.length_append, List.length_take, HN.out]; simp; omega) h.kb.size ?_
              intro v' w' hown hgrow _
              refine hK _ _ ?_
              exact ⟨_, _, _, _, _, _, _, _, _, _, _, _, rfl, h.s9 h7 h10 (h.kb.trans (grown_below o7 hgrow (Nat.le_refl _) h.kb.size)) hown⟩
            · skip
              refine op_at rfl (fun K hK => ?_)
              go_simp
              refine hK _ _ ?_
              exact ⟨_, _, _, _, _, _, _, _, _, _, _, _, rfl, h.s10 (hD 9 (by kernel_rfl)) rfl⟩
            · skip
              refine op_at rfl (fun K hK => ?_)
              go_simp
              refine hK _ _ ?_
              exact ⟨_, _, _, _, _, _, _, _, _, _, _, _, rfl, h.s11 rfl⟩
          case refine_2 =>
            intro Lb a' W hI hall
            obtain ⟨u6, u7, u64, u65, u66, u67, u68, u69, u70, u71, u72, u73, rfl, h⟩ := hI
            have o9 := h.k9 (hall 9)
            have e10 := h.k10 (hall 10)
            have e11 := h.k11 (hall 11)
            have kb := h.kb
            subst e10 e11
            obtain ⟨az, cz, ez, _⟩ := o9.formN (m := n + 1) (by rw [ins_length (by rw [HN.out]; omega), HN.out])
            subst ez
            have HO9 := hidIt o9
            have HK9 := hidIt kb
            clear h hall o9 kb
            have HD1 : Hid (Own W base (.slice az (n + 1) cz) DL) := hidIt (by rw [ed]; exact HO9.out.mono (by have := HB9.out.size; omega))
            have HBf := hidIt ((HB9.out.trans (HK9.out.mono HB9.out.size)).mono hb)
            clear HO9 HK9 ed
            go_wp2_with (fail)
            refine bodyPost_ret (v := .tuple #[.slice az (n + 1) cz, .bool true]) (by simp [results, Try.results30, go_sem]) rfl ⟨_, rfl, HD1.out, HBf.out⟩
      · have hin' : ¬ (k : Int) < (n : Int) := by omega
        have hd0 : decide ((k : Int) < (n : Int)) = false := decide_eq_false hin'
        have ep := PL.out k (by omega) HE.out (fun h => absurd h hin)
        rw [ep] at ed
        have hkc : (k : Int) ≤ (n : Int) := by omega
        have hk0' : (0 : Int) ≤ (k : Int) := by omega
        have HE0 : Hid (World.ownsRow ((W1.alloc (.cells #[.int .i64 s, .int .i64 (lf - 1), .int .i64 now] 46)).alloc (.cells #[] 46)) (W1.heap.size + 1) 46 3 (.slice (some ⟨W1.heap.size + 1, 0, none⟩) 0 0) 0 []) := hidIt (by have := Own.new (W1.alloc (.cells #[.int .i64 s, .int .i64 (lf - 1), .int .i64 now] 46)); simpa [Own, rcells] using this)
        have HRy := hidIt (HRz.out.alloc (.cells #[] 46))
        have HBy := hidIt (HBz.out.alloc HBz.out.size (.cells #[] 46))
        have BXy := hidIt (BX.out.alloc (.cells #[] 46))
        have hOB : ¬ (some gl = some (W1.heap.size + 1)) := by simp; omega
        have HC2 : Hid (∀ j u, (rcells (L.drop k))[j]? = some u → ((W1.alloc (.cells #[.int .i64 s, .int .i64 (lf - 1), .int .i64 now] 46)).alloc (.cells #[] 46)).cell? ((⟨gl, k * 3, none⟩ : Addr).add j) = some u) := hidIt ((HOz.out.alloc (.cells #[] 46)).piece k (by rw [HN.out]; omega))
        have hdl : (L.drop k).length = n - k := by rw [List.length_drop, HN.out]
        have key : ∀ (Q : Prop), (k = cap → Q) → (¬ k = cap → Q) → Q := fun Q x y => by
          by_cases h : k = cap
          · exact x h
          · exact y h
        refine key _ (fun hcp => ?_) (fun hcp => ?_)
        case refine_1 =>
          have hnk : n = k := by omega
          have hdn : L.drop k = [] := List.eq_nil_of_length_eq_zero (by rw [hdl]; omega)
          have HDN := hidIt hdn
          clear hdn hdl
          subst hcp
          subst hnk
          go_wp2_with (first | (at_builtin; refine wpList_append_own _ rfl _ _ 24 rfl (W1.heap.size + 1) 46 i0 (.agg #[.int .i64 0, .int .i64 0, .int .i64 0]) 3 24 Try.underlying24 hi0 hz0 hz1 hz2 rfl (by decide) _ _ _ rfl HE0.out _ 0 0 [] rfl rfl (fun j u hj => by simp at hj) (fun u hu => by cases hu) (by unfold maxLen; omega) (by omega) (by simp <;> omega) ?_) | fail)
          intro v' w9 hown hgrow hnil
          have HO9 : Hid (Own w9 (W1.heap.size + 1) v' (L.drop n)) := hidIt (by rw [HDN.out]; exact hown)
          have hv : v' ≠ .slice none 0 0 := by first | exact hnil | (intro e; have := (hnil.1 e).1; cases this)
          obtain ⟨gr, cr, ev, hr1, hr2, hr3, hr4⟩ := HO9.out.some_form hv
          rw [List.length_drop, HN.out] at ev hr1
          obtain ⟨d, hd⟩ : ∃ d, n - n = d := ⟨_, rfl⟩
          rw [hd] at ev hr1
          have HDd := hidIt hd
          clear hd
          subst ev
          have kk9 := grown_below (show Own ((W1.alloc (.cells #[.int .i64 s, .int .i64 (lf - 1), .int .i64 now] 46)).alloc (.cells #[] 46)) (W1.heap.size + 1) (.slice (some ⟨W1.heap.size + 1, 0, none⟩) 0 0) [] from HE0.out) hgrow (Nat.le_refl _) (by simp <;> omega)
          have hsz9 : W1.heap.size + 2 ≤ w9.heap.size := by have := kk9.size; simp at this; omega
          have HS1 : Hid (∀ j u, (rcells (L.take n))[j]? = some u → w9.cell? ((⟨gl, 0, none⟩ : Addr).add j) = some u) := hidIt (fun j u hj => by
            rw [kk9.cell (by rw [Go.WideShapes.add_plain]; show gl < _; omega)]
            exact (HOz.out.alloc (.cells #[] 46)).front n (by rw [HN.out]; omega) j u hj)
          have HBX : Hid (w9.cell? ⟨W1.heap.size, 0, none⟩ = some (.int .i64 s) ∧ w9.cell? ⟨W1.heap.size, 1, none⟩ = some (.int .i64 (lf - 1)) ∧ w9.cell? ⟨W1.heap.size, 2, none⟩ = some (.int .i64 now)) := hidIt ⟨by rw [kk9.cell (Nat.lt_succ_self _)]; exact BXy.out.c 0 rfl, by rw [kk9.cell (Nat.lt_succ_self _)]; exact BXy.out.c 1 rfl, by rw [kk9.cell (Nat.lt_succ_self _)]; exact BXy.out.c 2 rfl⟩
          have HS2 : Hid (∀ j u, (rcells (L.drop n))[j]? = some u → w9.cell? ((⟨gr, 0, none⟩ : Addr).add j) = some u) := hidIt (by
            obtain ⟨a1, c1, e1, _, _, r1, _⟩ := HO9.out.form
            simp only [Value.slice.injEq] at e1
            rw [← e1.1] at r1
            exact r1.cells)
          have Hfl : Hid (gl < w9.heap.size) := hidIt (by omega)
          have Hfb : Hid (W1.heap.size < w9.heap.size) := hidIt (by omega)
          have Hfr : Hid (gr < w9.heap.size) := hidIt hr4
          have HB9 := hidIt (HBy.out.trans (kk9.mono (by omega)))
          have hkcap : (n : Int) ≤ (n : Int) := by omega
          clear hown hgrow hnil kk9 hr1 hr2 hr3 hr4 HE0 HRy HBy BXy HC2 HO9 hv
          go_wp2_with (fail)
          refine wp_region_inv (by kernel_rfl) (by kernel_rfl) (JA gl n n n W1.heap.size gr cr d (s, lf - 1, now) L w9 _ _ _ _ _ _ _ _ _ _ _ _ _ _ _ _ _ _ _ _ _ _ _ _ _ _ _ _ _ _ _ _ _ _ _ _ _ _ _ _ _ _ _ _ _ _ _ _ _ _ _ _ _ _ _ _ _ _) ⟨_, _, _, _, _, _, _, _, _, _, _, _, rfl, ⟨(Below.refl _ _).drew, (fun q => by cases q), (fun q => by cases q), (fun q => by cases q), (fun q => by cases q), (fun q => by cases q), (fun q => by cases q), (fun q => by cases q), (fun q => by cases q), (fun q => by cases q), (fun q => by cases q), (fun q => by cases q), (fun q => by cases q), (fun q => by cases q), (fun q => by cases q), (fun q => by cases q), (fun q => by cases q)⟩⟩ ?_ ?_
          case refine_1 =>
            intro Lb a' W i hi hI hL hD
            have hcases : i = 0 ∨ i = 1 ∨ i = 2 ∨ i = 3 ∨ i = 4 ∨ i = 5 ∨ i = 6 ∨ i = 7 ∨ i = 8 ∨ i = 9 ∨ i = 10 ∨ i = 11 := by simp at hi; omega
            clear hi
            obtain ⟨u6, u7, u64, u65, u66, u67, u68, u69, u70, u71, u72, u73, rfl, h⟩ := hI
            rcases hcases with rfl | rfl | rfl | rfl | rfl | rfl | rfl | rfl | rfl | rfl | rfl | rfl
            · skip
              have h4 : Lb 4 = false := by
                cases q : Lb 4 with
                | false => rfl
                | true => have z := h.p4 q; rw [hL] at z; cases z
              have h7f : Lb 7 = false := by
                cases q : Lb 7 with
                | false => rfl
                | true => have z := (h.p7 q).1; rw [h4] at z; cases z
              refine op_at rfl (fun K hK => ?_)
              go_simp
              refine hK _ _ ?_
              exact ⟨_, _, _, _, _, _, _, _, _, _, _, _, rfl, (h.alloc _).s0 h4 ⟨_, rfl, (Own.new W).mono h.kb.size, by simp, fun q bl e => by obtain ⟨bl2, e2, x⟩ := h.k6 q (h7f); rw [e2] at e; cases e; have := x.lt; omega⟩⟩
            · skip
              refine op_at rfl (fun K hK => ?_)
              go_simp
              refine hK _ _ ?_
              exact ⟨_, _, _, _, _, _, _, _, _, _, _, _, rfl, h.s1 rfl⟩
            · skip
              refine op_at rfl (fun K hK => ?_)
              go_simp
              refine hK _ _ ?_
              exact ⟨_, _, _, _, _, _, _, _, _, _, _, _, rfl, h.s2 rfl⟩
            · skip
              have e1 := h.k1 (hD 1 (by kernel_rfl))
              have e2 := h.k2 (hD 2 (by kernel_rfl))
              subst e1 e2
              refine op_at rfl (fun K hK => ?_)
              go_simp
              refine hK _ _ ?_
              exact ⟨_, _, _, _, _, _, _, _, _, _, _, _, rfl, h.s3 rfl⟩
            · skip
              have h0 := hD 0 (by kernel_rfl)
              have e3 := h.k3 (hD 3 (by kernel_rfl))
              have h7 : Lb 7 = false := by
                cases q : Lb 7 with
                | false => rfl
                | true => have z := (h.p7 q).1; rw [hL] at z; cases z
              have h9 : Lb 9 = false := by
                cases q : Lb 9 with
                | false => rfl
                | true => have z := h.p9 q; rw [h7] at z; cases z
              obtain ⟨g, eg, og, lg, dg⟩ := h.k0 h0 hL
              subst e3 eg
              refine op_at rfl (fun K hK => ?_)
              refine step_append (by rfl) (.tmp 64) (.tmp 67) (by rfl) w9.heap.size _ [] (L.take n) (by simp [Act.eval]) og ⟨gl, 0, none⟩ n n (by rw [List.length_take, HN.out]; omega) (by simp [Act.eval]) (fun j u hj => by rw [h.kb.cell (by rw [Go.WideShapes.add_plain]; exact Hfl.out)]; exact HS1.out j u hj) (by simp; omega) h.kb.size ?_
              intro v' w' hown hgrow _
              refine hK _ _ ?_
              exact ⟨_, _, _, _, _, _, _, _, _, _, _, _, rfl, h.s4 h0 h7 h9 (fun bl e q x => by have hne := dg q bl e; exact ⟨Nat.lt_of_lt_of_le x.lt hgrow.size, fun i => by rw [World.cell?_of_block (w := W) (hgrow.block bl x.lt (by simpa [Value.ownBlock] using hne))]; exact x.at' i, fun i => by rw [World.frozen?_of_block (w := W) (hgrow.block bl x.lt (by simpa [Value.ownBlock] using hne))]; exact x.fr i⟩) (h.kb.trans (grown_below og hgrow (Nat.le_refl _) h.kb.size)) hown⟩
            · skip
              obtain ⟨q0, q1, q2⟩ := HBX.out
              have r0 : W.cell? ⟨W1.heap.size, 0, none⟩ = some (.int .i64 s) := by rw [h.kb.cell (by simpa using Hfb.out)]; exact q0
              have r1 : W.cell? ⟨W1.heap.size, 1, none⟩ = some (.int .i64 (lf - 1)) := by rw [h.kb.cell (by simpa using Hfb.out)]; exact q1
              have r2 : W.cell? ⟨W1.heap.size, 2, none⟩ = some (.int .i64 now) := by rw [h.kb.cell (by simpa using Hfb.out)]; exact q2
              clear q0 q1 q2
              refine op_at rfl (fun K hK => ?_)
              go_simp
              refine hK _ _ ?_
              exact ⟨_, _, _, _, _, _, _, _, _, _, _, _, rfl, h.s5 rfl⟩
            · skip
              have e5 := h.k5 (hD 5 (by kernel_rfl))
              subst e5
              have h7 : Lb 7 = false := by
                cases q : Lb 7 with
                | false => rfl
                | true => have z := (h.p7 q).2; rw [hL] at z; cases z
              refine op_at rfl (fun K hK => ?_)
              go_simp
              refine hK _ _ ?_
              exact ⟨_, _, _, _, _, _, _, _, _, _, _, _, rfl, h.s6 h7 46⟩
            · skip
              have h4 := hD 4 (by kernel_rfl)
              have h6 := hD 6 (by kernel_rfl)
              have h9 : Lb 9 = false := by
                cases q : Lb 9 with
                | false => rfl
                | true => have z := h.p9 q; rw [hL] at z; cases z
              have o4 := h.k4 h4 hL
              obtain ⟨bl, e6, x6⟩ := h.k6 h6 hL
              subst e6
              refine op_at rfl (fun K hK => ?_)
              refine step_append (by rfl) (.tmp 68) (.tmp 70) (by rfl) w9.heap.size _ (L.take n) [(s, lf - 1, now)] (by simp [Act.eval]) o4 ⟨bl, 0, none⟩ 1 1 rfl (by simp [Act.eval]) (fun j u hj => box_cells x6 j u hj) (by rw [List.length_take, HN.out]; omega) h.kb.size ?_
              intro v' w' hown hgrow _
              refine hK _ _ ?_
              exact ⟨_, _, _, _, _, _, _, _, _, _, _, _, rfl, h.s7 h4 h6 h9 (h.kb.trans (grown_below o4 hgrow (Nat.le_refl _) h.kb.size)) hown⟩
            · skip
              refine op_at rfl (fun K hK => ?_)
              go_simp
              refine hK _ _ ?_
              exact ⟨_, _, _, _, _, _, _, _, _, _, _, _, rfl, h.s8 rfl⟩
            · skip
              have h7 := hD 7 (by kernel_rfl)
              have e8 := h.k8 (hD 8 (by kernel_rfl))
              have h10 : Lb 10 = false := by
                cases q : Lb 10 with
                | false => rfl
                | true => have z := h.p10 q; rw [hL] at z; cases z
              have o7 := h.k7 h7 hL
              subst e8
              refine op_at rfl (fun K hK => ?_)
              refine step_append (by rfl) (.tmp 71) (.tmp 72) (by rfl) w9.heap.size _ (L.take n ++ [(s, lf - 1, now)]) (L.drop n) (by simp [Act.eval]) o7 ⟨gr, 0, none⟩ d cr (by rw [List.length_drop, HN.out]; exact HDd.out) (by simp [Act.eval]) (fun j u hj => by rw [h.kb.cell (by rw [Go.WideShapes.add_plain]; exact Hfr.out)]; exact HS2.out j u hj) (by have := HDd.out; rw [List.length_append, List.length_take, HN.out]; simp; omega) h.kb.size ?_
              intro v' w' hown hgrow _
              refine hK _ _ ?_
              exact ⟨_, _, _, _, _, _, _, _, _, _, _, _, rfl, h.s9 h7 h10 (h.kb.trans (grown_below o7 hgrow (Nat.le_refl _) h.kb.size)) hown⟩
            · skip
              refine op_at rfl (fun K hK => ?_)
              go_simp
              refine hK _ _ ?_
              exact ⟨_, _, _, _, _, _, _, _, _, _, _, _, rfl, h.s10 (hD 9 (by kernel_rfl)) rfl⟩
            · skip
              refine op_at rfl (fun K hK => ?_)
              go_simp
              refine hK _ _ ?_
              exact ⟨_, _, _, _, _, _, _, _, _, _, _, _, rfl, h.s11 rfl⟩
          case refine_2 =>
            intro Lb a' W hI hall
            obtain ⟨u6, u7, u64, u65, u66, u67, u68, u69, u70, u71, u72, u73, rfl, h⟩ := hI
            have o9 := h.k9 (hall 9)
            have e10 := h.k10 (hall 10)
            have e11 := h.k11 (hall 11)
            have kb := h.kb
            subst e10 e11
            obtain ⟨az, cz, ez, _⟩ := o9.formN (m := n + 1) (by rw [ins_length (by rw [HN.out]; omega), HN.out])
            subst ez
            have HO9 := hidIt o9
            have HK9 := hidIt kb
            clear h hall o9 kb
            have HD1 : Hid (Own W base (.slice az (n + 1) cz) DL) := hidIt (by rw [ed]; exact HO9.out.mono (by have := HB9.out.size; omega))
            have HBf := hidIt ((HB9.out.trans (HK9.out.mono HB9.out.size)).mono hb)
            clear HO9 HK9 ed
            go_wp2_with (fail)
            refine bodyPost_ret (v := .tuple #[.slice az (n + 1) cz, .bool true]) (by simp [results, Try.results30, go_sem]) rfl ⟨_, rfl, HD1.out, HBf.out⟩
        case refine_2 =>
          go_wp2_with (first | (at_builtin; refine wpList_append_own _ rfl _ _ 24 rfl (W1.heap.size + 1) 46 i0 (.agg #[.int .i64 0, .int .i64 0, .int .i64 0]) 3 24 Try.underlying24 hi0 hz0 hz1 hz2 rfl (by decide) _ _ _ rfl HE0.out ⟨gl, k * 3, none⟩ (n - k) (cap - k) (rcells (L.drop k)) rfl (by rw [rcells_length, hdl]) HC2.out (rcells_one _) (by unfold maxLen; omega) (by omega) (by simp <;> omega) ?_) | fail)
          intro v' w9 hown hgrow hnil
          have HO9 : Hid (Own w9 (W1.heap.size + 1) v' (L.drop k)) := hidIt (by unfold Own; rw [hdl]; exact hown)
          have hv : v' ≠ .slice none 0 0 := by first | exact hnil | (intro e; have := (hnil.1 e).1; cases this)
          obtain ⟨gr, cr, ev, hr1, hr2, hr3, hr4⟩ := HO9.out.some_form hv
          rw [List.length_drop, HN.out] at ev hr1
          obtain ⟨d, hd⟩ : ∃ d, n - k = d := ⟨_, rfl⟩
          rw [hd] at ev hr1
          have HDd := hidIt hd
          clear hd
          subst ev
          have kk9 := grown_below (show Own ((W1.alloc (.cells #[.int .i64 s, .int .i64 (lf - 1), .int .i64 now] 46)).alloc (.cells #[] 46)) (W1.heap.size + 1) (.slice (some ⟨W1.heap.size + 1, 0, none⟩) 0 0) [] from HE0.out) hgrow (Nat.le_refl _) (by simp <;> omega)
          have hsz9 : W1.heap.size + 2 ≤ w9.heap.size := by have := kk9.size; simp at this; omega
          have HS1 : Hid (∀ j u, (rcells (L.take k))[j]? = some u → w9.cell? ((⟨gl, 0, none⟩ : Addr).add j) = some u) := hidIt (fun j u hj => by
            rw [kk9.cell (by rw [Go.WideShapes.add_plain]; show gl < _; omega)]
            exact (HOz.out.alloc (.cells #[] 46)).front k (by rw [HN.out]; omega) j u hj)
          have HBX : Hid (w9.cell? ⟨W1.heap.size, 0, none⟩ = some (.int .i64 s) ∧ w9.cell? ⟨W1.heap.size, 1, none⟩ = some (.int .i64 (lf - 1)) ∧ w9.cell? ⟨W1.heap.size, 2, none⟩ = some (.int .i64 now)) := hidIt ⟨by rw [kk9.cell (Nat.lt_succ_self _)]; exact BXy.out.c 0 rfl, by rw [kk9.cell (Nat.lt_succ_self _)]; exact BXy.out.c 1 rfl, by rw [kk9.cell (Nat.lt_succ_self _)]; exact BXy.out.c 2 rfl⟩
          have HS2 : Hid (∀ j u, (rcells (L.drop k))[j]? = some u → w9.cell? ((⟨gr, 0, none⟩ : Addr).add j) = some u) := hidIt (by
            obtain ⟨a1, c1, e1, _, _, r1, _⟩ := HO9.out.form
            simp only [Value.slice.injEq] at e1
            rw [← e1.1] at r1
            exact r1.cells)
          have Hfl : Hid (gl < w9.heap.size) := hidIt (by omega)
          have Hfb : Hid (W1.heap.size < w9.heap.size) := hidIt (by omega)
          have Hfr : Hid (gr < w9.heap.size) := hidIt hr4
          have HB9 := hidIt (HBy.out.trans (kk9.mono (by omega)))
          have hkcap : (k : Int) ≤ (cap : Int) := by omega
          clear hown hgrow hnil kk9 hr1 hr2 hr3 hr4 HE0 HRy HBy BXy HC2 HO9 hv
          go_wp2_with (fail)
          refine wp_region_inv (by kernel_rfl) (by kernel_rfl) (JA gl cap n k W1.heap.size gr cr d (s, lf - 1, now) L w9 _ _ _ _ _ _ _ _ _ _ _ _ _ _ _ _ _ _ _ _ _ _ _ _ _ _ _ _ _ _ _ _ _ _ _ _ _ _ _ _ _ _ _ _ _ _ _ _ _ _ _ _ _ _ _ _ _ _) ⟨_, _, _, _, _, _, _, _, _, _, _, _, rfl, ⟨(Below.refl _ _).drew, (fun q => by cases q), (fun q => by cases q), (fun q => by cases q), (fun q => by cases q), (fun q => by cases q), (fun q => by cases q), (fun q => by cases q), (fun q => by cases q), (fun q => by cases q), (fun q => by cases q), (fun q => by cases q), (fun q => by cases q), (fun q => by cases q), (fun q => by cases q), (fun q => by cases q), (fun q => by cases q)⟩⟩ ?_ ?_
          case refine_1 =>
            intro Lb a' W i hi hI hL hD
            have hcases : i = 0 ∨ i = 1 ∨ i = 2 ∨ i = 3 ∨ i = 4 ∨ i = 5 ∨ i = 6 ∨ i = 7 ∨ i = 8 ∨ i = 9 ∨ i = 10 ∨ i = 11 := by simp at hi; omega
            clear hi
            obtain ⟨u6, u7, u64, u65, u66, u67, u68, u69, u70, u71, u72, u73, rfl, h⟩ := hI
            rcases hcases with rfl | rfl | rfl | rfl | rfl | rfl | rfl | rfl | rfl | rfl | rfl | rfl
            · skip
              have h4 : Lb 4 = false := by
                cases q : Lb 4 with
                | false => rfl
                | true => have z := h.p4 q; rw [hL] at z; cases z
              have h7f : Lb 7 = false := by
                cases q : Lb 7 with
                | false => rfl
                | true => have z := (h.p7 q).1; rw [h4] at z; cases z
              refine op_at rfl (fun K hK => ?_)
              go_simp
              refine hK _ _ ?_
              exact ⟨_, _, _, _, _, _, _, _, _, _, _, _, rfl, (h.alloc _).s0 h4 ⟨_, rfl, (Own.new W).mono h.kb.size, by simp, fun q bl e => by obtain ⟨bl2, e2, x⟩ := h.k6 q (h7f); rw [e2] at e; cases e; have := x.lt; omega⟩⟩
            · skip
              refine op_at rfl (fun K hK => ?_)
              go_simp
              refine hK _ _ ?_
              exact ⟨_, _, _, _, _, _, _, _, _, _, _, _, rfl, h.s1 rfl⟩
            · skip
              refine op_at rfl (fun K hK => ?_)
              go_simp
              refine hK _ _ ?_
              exact ⟨_, _, _, _, _, _, _, _, _, _, _, _, rfl, h.s2 rfl⟩
            · skip
              have e1 := h.k1 (hD 1 (by kernel_rfl))
              have e2 := h.k2 (hD 2 (by kernel_rfl))
              subst e1 e2
              refine op_at rfl (fun K hK => ?_)
              go_simp
              refine hK _ _ ?_
              exact ⟨_, _, _, _, _, _, _, _, _, _, _, _, rfl, h.s3 rfl⟩
            · skip
              have h0 := hD 0 (by kernel_rfl)
              have e3 := h.k3 (hD 3 (by kernel_rfl))
              have h7 : Lb 7 = false := by
                cases q : Lb 7 with
                | false => rfl
                | true => have z := (h.p7 q).1; rw [hL] at z; cases z
              have h9 : Lb 9 = false := by
                cases q : Lb 9 with
                | false => rfl
                | true => have z := h.p9 q; rw [h7] at z; cases z
              obtain ⟨g, eg, og, lg, dg⟩ := h.k0 h0 hL
              subst e3 eg
              refine op_at rfl (fun K hK => ?_)
              refine step_append (by rfl) (.tmp 64) (.tmp 67) (by rfl) w9.heap.size _ [] (L.take k) (by simp [Act.eval]) og ⟨gl, 0, none⟩ k cap (by rw [List.length_take, HN.out]; omega) (by simp [Act.eval]) (fun j u hj => by rw [h.kb.cell (by rw [Go.WideShapes.add_plain]; exact Hfl.out)]; exact HS1.out j u hj) (by simp; omega) h.kb.size ?_
              intro v' w' hown hgrow _
              refine hK _ _ ?_
              exact ⟨_, _, _, _, _, _, _, _, _, _, _, _, rfl, h.s4 h0 h7 h9 (fun bl e q x => by have hne := dg q bl e; exact ⟨Nat.lt_of_lt_of_le x.lt hgrow.size, fun i => by rw [World.cell?_of_block (w := W) (hgrow.block bl x.lt (by simpa [Value.ownBlock] using hne))]; exact x.at' i, fun i => by rw [World.frozen?_of_block (w := W) (hgrow.block bl x.lt (by simpa [Value.ownBlock] using hne))]; exact x.fr i⟩) (h.kb.trans (grown_below og hgrow (Nat.le_refl _) h.kb.size)) hown⟩
            · skip
              obtain ⟨q0, q1, q2⟩ := HBX.out
              have r0 : W.cell? ⟨W1.heap.size, 0, none⟩ = some (.int .i64 s) := by rw [h.kb.cell (by simpa using Hfb.out)]; exact q0
              have r1 : W.cell? ⟨W1.heap.size, 1, none⟩ = some (.int .i64 (lf - 1)) := by rw [h.kb.cell (by simpa using Hfb.out)]; exact q1
              have r2 : W.cell? ⟨W1.heap.size, 2, none⟩ = some (.int .i64 now) := by rw [h.kb.cell (by simpa using Hfb.out)]; exact q2
              clear q0 q1 q2
              refine op_at rfl (fun K hK => ?_)
              go_simp
              refine hK _ _ ?_
              exact ⟨_, _, _, _, _, _, _, _, _, _, _, _, rfl, h.s5 rfl⟩
            · skip
              have e5 := h.k5 (hD 5 (by kernel_rfl))
              subst e5
              have h7 : Lb 7 = false := by
                cases q : Lb 7 with
                | false => rfl
                | true => have z := (h.p7 q).2; rw [hL] at z; cases z
              refine op_at rfl (fun K hK => ?_)
              go_simp
              refine hK _ _ ?_
              exact ⟨_, _, _, _, _, _, _, _, _, _, _, _, rfl, h.s6 h7 46⟩
            · skip
              have h4 := hD 4 (by kernel_rfl)
              have h6 := hD 6 (by kernel_rfl)
              have h9 : Lb 9 = false := by
                cases q : Lb 9 with
                | false => rfl
                | true => have z := h.p9 q; rw [hL] at z; cases z
              have o4 := h.k4 h4 hL
              obtain ⟨bl, e6, x6⟩ := h.k6 h6 hL
              subst e6
              refine op_at rfl (fun K hK => ?_)
              refine step_append (by rfl) (.tmp 68) (.tmp 70) (by rfl) w9.heap.size _ (L.take k) [(s, lf - 1, now)] (by simp [Act.eval]) o4 ⟨bl, 0, none⟩ 1 1 rfl (by simp [Act.eval]) (fun j u hj => box_cells x6 j u hj) (by rw [List.length_take, HN.out]; omega) h.kb.size ?_
              intro v' w' hown hgrow _
              refine hK _ _ ?_
              exact ⟨_, _, _, _, _, _, _, _, _, _, _, _, rfl, h.s7 h4 h6 h9 (h.kb.trans (grown_below o4 hgrow (Nat.le_refl _) h.kb.size)) hown⟩
            · skip
              refine op_at rfl (fun K hK => ?_)
              go_simp
              refine hK _ _ ?_
              exact ⟨_, _, _, _, _, _, _, _, _, _, _, _, rfl, h.s8 rfl⟩
            · skip
              have h7 := hD 7 (by kernel_rfl)
              have e8 := h.k8 (hD 8 (by kernel_rfl))
              have h10 : Lb 10 = false := by
                cases q : Lb 10 with
                | false => rfl
                | true => have z := h.p10 q; rw [hL] at z; cases z
              have o7 := h.k7 h7 hL
              subst e8
              refine op_at rfl (fun K hK => ?_)
              refine step_append (by rfl) (.tmp 71) (.tmp 72) (by rfl) w9.heap.size _ (L.take k ++ [(s, lf - 1, now)]) (L.drop k) (by simp [Act.eval]) o7 ⟨gr, 0, none⟩ d cr (by rw [List.length_drop, HN.out]; exact HDd.out) (by simp [Act.eval]) (fun j u hj => by rw [h.kb.cell (by rw [Go.WideShapes.add_plain]; exact Hfr.out)]; exact HS2.out j u hj) (by have := HDd.out; rw [List.length_append, List.length_take, HN.out]; simp; omega) h.kb.size ?_
              intro v' w' hown hgrow _
              refine hK _ _ ?_
              exact ⟨_, _, _, _, _, _, _, _, _, _, _, _, rfl, h.s9 h7 h10 (h.kb.trans (grown_below o7 hgrow (Nat.le_refl _) h.kb.size)) hown⟩
            · skip
              refine op_at rfl (fun K hK => ?_)
              go_simp
              refine hK _ _ ?_
              exact ⟨_, _, _, _, _, _, _, _, _, _, _, _, rfl, h.s10 (hD 9 (by kernel_rfl)) rfl⟩
            · skip
              refine op_at rfl (fun K hK => ?_)
              go_simp
              refine hK _ _ ?_
              exact ⟨_, _, _, _, _, _, _, _, _, _, _, _, rfl, h.s11 rfl⟩
          case refine_2 =>
            intro Lb a' W hI hall
            obtain ⟨u6, u7, u64, u65, u66, u67, u68, u69, u70, u71, u72, u73, rfl, h⟩ := hI
            have o9 := h.k9 (hall 9)
            have e10 := h.k10 (hall 10)
            have e11 := h.k11 (hall 11)
            have kb := h.kb
            subst e10 e11
            obtain ⟨az, cz, ez, _⟩ := o9.formN (m := n + 1) (by rw [ins_length (by rw [HN.out]; omega), HN.out])
            subst ez
            have HO9 := hidIt o9
            have HK9 := hidIt kb
            clear h hall o9 kb
            have HD1 : Hid (Own W base (.slice az (n + 1) cz) DL) := hidIt (by rw [ed]; exact HO9.out.mono (by have := HB9.out.size; omega))
            have HBf := hidIt ((HB9.out.trans (HK9.out.mono HB9.out.size)).mono hb)
            clear HO9 HK9 ed
            go_wp2_with (fail)
            refine bodyPost_ret (v := .tuple #[.slice az (n + 1) cz, .bool true]) (by simp [results, Try.results30, go_sem]) rfl ⟨_, rfl, HD1.out, HBf.out⟩
set_option maxRecDepth 100000 in
set_option maxHeartbeats 4000000 in
theorem spec_Drawn (a : Option Addr) (cap : Nat) (L : List Rw) (s now : Int) (w : World) (h : Rd w a L) (hna : a = none → cap = 0) (hl : L.length ≤ 9223372036854775807) :
    Calls Try.prog 11 #[.slice a L.length cap, .int .i64 s, .int .i64 now] w fun e w' => ∃ v, e = .returned (.tuple #[v, .bool (drawnR L s now).2]) ∧ Own w' w.heap.size v (drawnR L s now).1 ∧ Below w.heap.size w w' := by
  obtain ⟨i0, hi0, hz0, hz1, hz2⟩ := info_parts infoRw
  have CO := hidIt (spec_BucketsOk a cap L w h hl)
  have HR := hidIt h
  cases ho : okB L with
  | false =>
    rw [ho] at CO
    rw [drawn_bad ho]
    clear h ho hna
    generalize L.length = m at *
    go_enter Try.func11, Try.ntmps11
    go_wp2_with (fail)
    refine CO.out.mono ?_
    rintro e w1 ⟨rfl, kk⟩
    have HB := hidIt kk
    clear kk
    go_wp2_with (fail)
    go_ret2
    exact ⟨_, rfl, (Own.new w1).mono HB.out.size, HB.out.alloc HB.out.size _⟩
  | true =>
    rw [ho] at CO
    have hlen := okB_len ho
    have er : drawnR L s now = (if goes L s now then drawL L s now else L, goes L s now) := by
      cases hg : goes L s now with
      | false => rw [drawn_no ho hg]; rfl
      | true => rw [drawn_yes ho hg]; rfl
    rw [er]
    have CD := hidIt (fun gl cp W base (o : Own W base (.slice (some ⟨gl, 0, none⟩) L.length cp) L) hb => spec_l15Draw gl cp L s now W base o ho hb)
    generalize (if goes L s now then drawL L s now else L) = X at CD ⊢
    generalize goes L s now = g at CD ⊢
    clear h ho er
    generalize hn : L.length = m at *
    have HN := hidIt hn
    clear hn
    go_enter Try.func11, Try.ntmps11
    go_wp2_with (fail)
    refine CO.out.mono ?_
    rintro e w1 ⟨rfl, kk⟩
    have HB := hidIt (kk.alloc kk.size (.cells #[] 46))
    have hsz := kk.size
    replace HR := hidIt ((HR.out.kept kk).alloc (.cells #[] 46))
    have HE0 : Hid (World.ownsRow (w1.alloc (.cells #[] 46)) w1.heap.size 46 3 (.slice (some ⟨w1.heap.size, 0, none⟩) 0 0) 0 []) := hidIt (by have := Own.new w1; simpa [Own, rcells] using this)
    clear kk CO
    have fin : ∀ v' w9, Own w9 w1.heap.size v' L → Below w1.heap.size (w1.alloc (.cells #[] 46)) w9 → v' ≠ .slice none 0 0 → ∃ gl cp, v' = .slice (some ⟨gl, 0, none⟩) m cp ∧ Hid (Calls Try.prog 30 #[.slice (some ⟨gl, 0, none⟩) m cp, .int .i64 s, .int .i64 now] w9 fun e w' => ∃ v, e = .returned (.tuple #[v, .bool g]) ∧ Own w' w.heap.size v X ∧ Below w.heap.size w w') := fun v' w9 o k hv => by
      obtain ⟨gl, cp, ev, h1, h2, h3, h4⟩ := o.some_form hv
      rw [HN.out] at ev h1
      subst ev
      have hk : Below w.heap.size w w9 := HB.out.trans (k.mono hsz)
      refine ⟨gl, cp, rfl, hidIt ((CD.out gl cp w9 w.heap.size (o.mono hsz) hk.size).mono ?_)⟩
      rintro e w' ⟨v, rfl, o', k'⟩
      exact ⟨v, rfl, o', hk.trans k'⟩
    cases a with
    | none =>
      have hm0 : m = 0 := by have := HR.out.none_nil; rw [← HN.out, this]; rfl
      have hc0 := hna rfl
      have HL0 : Hid (L = []) := hidIt HR.out.none_nil
      subst hm0 hc0
      have HF : Hid (Own (w1.alloc (.cells #[] 46)) w1.heap.size (.slice (some ⟨w1.heap.size, 0, none⟩) 0 0) L) := hidIt (by rw [HL0.out]; exact HE0.out)
      obtain ⟨gl, cp, ev, HX⟩ := fin _ _ HF.out (Below.refl _ _) (by intro e; cases e)
      cases ev
      clear fin HF HL0 hna
      go_wp2_with (first | (go_at_call 30; refine HX.out.mono ?_; rintro e w' ⟨v, rfl, o', k'⟩; obtain ⟨z1, z2, ez, _⟩ := o'.form; have HO := hidIt o'; have HK := hidIt k'; clear o' k'; subst ez) | fail)
      go_ret2
      exact ⟨_, rfl, HO.out, HK.out⟩
    | some ad =>
      have HC : Hid (∀ j u, (rcells L)[j]? = some u → (w1.alloc (.cells #[] 46)).cell? (ad.add j) = some u) := hidIt (fun j u hj => by
        have hlt : j < L.length * 3 := by rw [← rcells_length]; exact (List.getElem?_eq_some_iff.1 hj).1
        obtain ⟨b0, o0, e0, _⟩ := HR.out.cell (j / 3) (by omega)
        cases e0
        exact HR.out.cells j u hj)
      go_wp2_with (first | (at_builtin; refine wpList_append_own _ rfl _ _ 24 rfl w1.heap.size 46 i0 (.agg #[.int .i64 0, .int .i64 0, .int .i64 0]) 3 24 Try.underlying24 hi0 hz0 hz1 hz2 rfl (by decide) _ _ _ rfl HE0.out ad m cap (rcells L) rfl (by rw [rcells_length, HN.out]) HC.out (rcells_one _) (by unfold maxLen; omega) (by omega) (by simp) ?_) | fail)
      intro v' w9 hown hgrow hnil
      have HF : Hid (Own w9 w1.heap.size v' L) := hidIt (by unfold Own; rw [HN.out]; simpa using hown)
      have kk := grown_below (show Own (w1.alloc (.cells #[] 46)) w1.heap.size (.slice (some ⟨w1.heap.size, 0, none⟩) 0 0) [] from HE0.out) hgrow (Nat.le_refl _) (by simp)
      have hv : v' ≠ .slice none 0 0 := by first | exact hnil | (intro e; have := (hnil.1 e).1; cases this)
      obtain ⟨gl, cp, ev, HX⟩ := fin _ _ HF.out kk hv
      subst ev
      clear fin HF hv kk hown hgrow hnil HC HE0
      go_wp2_with (first | (go_at_call 30; refine HX.out.mono ?_; rintro e w' ⟨v, rfl, o', k'⟩; obtain ⟨z1, z2, ez, _⟩ := o'.form; have HO := hidIt o'; have HK := hidIt k'; clear o' k'; subst ez) | fail)
      go_ret2
      exact ⟨_, rfl, HO.out, HK.out⟩
end Go.Proofs.Ytiakongbiajlhaa.Bu
