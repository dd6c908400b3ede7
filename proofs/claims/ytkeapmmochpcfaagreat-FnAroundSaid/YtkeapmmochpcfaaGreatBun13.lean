/- Goroutines: QPrt. -/
import Derived.Test.YtkeapmmochpcfaaGreatBun12
import Derived.Conc.CrowdStepW
import Derived.Conc.CrowdRun
import Derived.Conc.Token
set_option maxRecDepth 100000
set_option maxHeartbeats 32000000
set_option linter.unusedVariables false
namespace Go.Proofs.YtkeapmmochpcfaaGreat.Wt
open Go Go.Conc
open Go.ConcN (WD cnt Vc Ssum Fsum sumTo upd upd_ne upd_same sumTo_upd sumTo_upd_out sumTo_congr le_sumTo Vc_upd Vc_le others_uncounted)
open Go.ConcR (KK)
set_option linter.unusedSectionVars false
structure Tg where
 k : Nat
 a : Nat
 b : Nat
namespace Tg
def sp (r s : Nat) : Tg:=⟨0,r,s⟩
def kd : Tg:=⟨1,0,0⟩
def hd : Tg:=⟨2,0,0⟩
def lk : Tg:=⟨3,0,0⟩
def sw (vs : Nat) : Tg:=⟨4,vs,0⟩
def wr : Tg:=⟨5,0,0⟩
def sm : Tg:=⟨6,0,0⟩
def bk : Tg:=⟨7,0,0⟩
def ag : Tg:=⟨8,0,0⟩
def ke : Tg:=⟨9,0,0⟩
def aq : Tg:=⟨10,0,0⟩
end Tg
def pend (tg : Tg) : Nat:=if tg.k = 0 ∧ tg.b ≤ 4 then 1 else 0
def early (tg : Tg) : Prop:=match tg.k with
 | 0 | 1 | 2 | 3 | 4=>True
 | _=>False
def mid (tg : Tg) : Prop:=tg = .wr ∨ tg = .sm ∨ tg = .bk
def late (tg : Tg) : Prop:=match tg.k with
 | 8 | 9 | 10 | 11=>True
 | _=>False
def rnk (n v : Nat) (tg : Tg) : Nat:=match tg.k with
 | 0=>8 * n + 16 + 16 * tg.a + tg.b
 | 1=>8 * n + 7
 | 2=>8 * v + 6
 | 3=>8 * v + 5
 | 4=>8 * tg.a + 4
 | 5=>6
 | 6=>5
 | 7=>5
 | 8=>4
 | 9=>3
 | 10=>2
 | _=>1
theorem pends : (∀ r s,pend (.sp r s) = if s ≤ 4 then 1 else 0) ∧ pend .kd = 0 ∧ pend .hd = 0 ∧ pend .lk = 0 ∧ (∀ vs,pend (.sw vs) = 0) ∧ pend .wr = 0 ∧ pend .sm = 0 ∧ pend .bk = 0 ∧ pend .ag = 0 ∧ pend .ke = 0 ∧ pend .aq = 0 :=
 ⟨fun r s=>by simp [pend,Tg.sp],rfl,rfl,rfl,fun _=>rfl,rfl,rfl,rfl,rfl,rfl,rfl⟩
theorem rnks : (∀ n v r s,rnk n v (.sp r s) = 8 * n + 16 + 16 * r + s) ∧ (∀ n v,rnk n v .kd = 8 * n + 7) ∧ (∀ n v,rnk n v .hd = 8 * v + 6) ∧ (∀ n v,rnk n v .lk = 8 * v + 5) ∧ (∀ n v vs,rnk n v (.sw vs) = 8 * vs + 4) ∧
  (∀ n v,rnk n v .wr = 6) ∧ (∀ n v,rnk n v .sm = 5) ∧ (∀ n v,rnk n v .bk = 5) ∧ (∀ n v,rnk n v .ag = 4) ∧ (∀ n v,rnk n v .ke = 3) ∧ (∀ n v,rnk n v .aq = 2):=by
 refine ⟨?_,?_,?_,?_,?_,?_,?_,?_,?_,?_,?_⟩ <;> intros <;> rfl
theorem rnk_mono (n : Nat) {v v' : Nat} (h : v' ≤ v) (tg : Tg) : rnk n v' tg ≤ rnk n v tg:=by
 unfold rnk
 split <;> omega
theorem mid_early {tg : Tg} (h : mid tg) (h' : early tg) : False:=by
 rcases h with rfl | rfl | rfl <;> exact h'
theorem mid_late {tg : Tg} (h : mid tg) (h' : late tg) : False:=by
 rcases h with rfl | rfl | rfl <;> exact h'
theorem late_early {tg : Tg} (h : late tg) (h' : early tg) : False:=by
 unfold late at h
 unfold early at h'
 split at h <;> first | exact h | (rename_i e; rw [e] at h'; exact h')
def Opn (j : Nat) (D : Nat → WD) : Prop:=∀ i,i < j → 5 ≤ (D i).stage ∨ (D i).stage = 1
def Out (j : Nat) (D : Nat → WD) : Prop:=∀ i,i < j → (D i).stage = 1
structure Md.Rules (j : Nat) (D : Nat → WD) (C : Tg → Int → Int → Prop) : Prop where
 opn : ∀ {tg},early tg → Opn j D → (∀ vs,tg = .sw vs → Vc j D ≤ vs ∧ 1 ≤ vs) → C tg (((Vc j D + pend tg : Nat) : Int) * KK) 0
 reg : ∀ {tg},mid tg → Opn j D → 1 ≤ Vc j D → C tg (((Vc j D : Nat) : Int) * KK + 1) 0
 last : ∀ {tg} (L),mid tg → L < j → (D L).stage = 4 ∨ (D L).stage = 3 ∨ (D L).stage = 2 → (∀ i,i < j → i ≠ L → (D i).stage = 1) → C tg (if (D L).stage = 2 then 0 else 1) 0
 up : ∀ {tg},tg = .wr ∨ tg = .sm → Out j D → C tg 0 1
 fin : ∀ {tg},late tg → Out j D → C tg 0 0
def Md (j : Nat) (D : Nat → WD) (tg : Tg) (st : Int) (sm : Int) : Prop:=∀ C,Md.Rules j D C → C tg st sm
theorem Md.opn {j : Nat} {D : Nat → WD} {tg} (h0 : early tg) (h1 : Opn j D) (h2 : ∀ vs,tg = .sw vs → Vc j D ≤ vs ∧ 1 ≤ vs) : Md j D tg (((Vc j D + pend tg : Nat) : Int) * KK) 0:=fun _ r=>r.opn h0 h1 h2
theorem Md.reg {j : Nat} {D : Nat → WD} {tg} (h0 : mid tg) (h1 : Opn j D) (h2 : 1 ≤ Vc j D) : Md j D tg (((Vc j D : Nat) : Int) * KK + 1) 0:=fun _ r=>r.reg h0 h1 h2
theorem Md.last {j : Nat} {D : Nat → WD} {tg} (L) (h0 : mid tg) (h1 : L < j) (h2 : (D L).stage = 4 ∨ (D L).stage = 3 ∨ (D L).stage = 2) (h3 : ∀ i,i < j → i ≠ L → (D i).stage = 1) : Md j D tg (if (D L).stage = 2 then 0 else 1) 0:=fun _ r=>r.last L h0 h1 h2 h3
theorem Md.up {j : Nat} {D : Nat → WD} {tg} (h0 : tg = .wr ∨ tg = .sm) (h1 : Out j D) : Md j D tg 0 1:=fun _ r=>r.up h0 h1
theorem Md.fin {j : Nat} {D : Nat → WD} {tg} (h0 : late tg) (h1 : Out j D) : Md j D tg 0 0:=fun _ r=>r.fin h0 h1
theorem Md.elim {j : Nat} {D : Nat → WD} {motive : ∀ tg st sm,Md j D tg st sm → Prop}
  (opn : ∀ {tg} (h0 : early tg) (h1 : Opn j D) (h2 : ∀ vs,tg = .sw vs → Vc j D ≤ vs ∧ 1 ≤ vs),motive tg (((Vc j D + pend tg : Nat) : Int) * KK) 0 (.opn h0 h1 h2))
  (reg : ∀ {tg} (h0 : mid tg) (h1 : Opn j D) (h2 : 1 ≤ Vc j D),motive tg (((Vc j D : Nat) : Int) * KK + 1) 0 (.reg h0 h1 h2))
  (last : ∀ {tg} (L) (h0 : mid tg) (h1 : L < j) (h2 : (D L).stage = 4 ∨ (D L).stage = 3 ∨ (D L).stage = 2) (h3 : ∀ i,i < j → i ≠ L → (D i).stage = 1),motive tg (if (D L).stage = 2 then 0 else 1) 0 (.last L h0 h1 h2 h3))
  (up : ∀ {tg} (h0 : tg = .wr ∨ tg = .sm) (h1 : Out j D),motive tg 0 1 (.up h0 h1))
  (fin : ∀ {tg} (h0 : late tg) (h1 : Out j D),motive tg 0 0 (.fin h0 h1)) {tg st sm} (t : Md j D tg st sm) : motive tg st sm t :=
 t (fun tg st sm=>∀ t,motive tg st sm t) ⟨fun h0 h1 h2 _=>opn h0 h1 h2,fun h0 h1 h2 _=>reg h0 h1 h2,fun L h0 h1 h2 h3 _=>last L h0 h1 h2 h3,fun h0 h1 _=>up h0 h1,fun h0 h1 _=>fin h0 h1⟩ t
section
variable {j i : Nat} {D : Nat → WD} {tg tg' : Tg} {st sm : Int}
theorem Opn.vc0 (h : Opn j D) (h0 : Vc j D = 0) : Out j D:=by
 intro a ha
 refine (h a ha).resolve_left fun h5=>?_
 have:=le_sumTo (f:=fun x=>cnt (D x)) ha
 simp only [Vc] at h0
 have c : cnt (D a) = 1:=by simp [cnt,h5]
 omega
theorem Out.vc (h : Out j D) : Vc j D = 0:=by
 have : sumTo j (fun i=>cnt (D i)) ≤ 0 * j:=Go.ConcN.sumTo_le fun i hi=>by simp [cnt,h i hi]
 simpa [Vc] using this
theorem vc_keep (hi : i < j) (h5 : 5 ≤ (D i).stage) {x : WD} (hx : 5 ≤ x.stage) : Vc j (upd D i x) = Vc j D:=by
 have:=Vc_upd D x hi
 have c1 : cnt (D i) = 1:=by simp [cnt,h5]
 have c2 : cnt x = 1:=by simp [cnt,hx]
 omega
theorem vc_drop (hi : i < j) (h5 : 5 ≤ (D i).stage) {x : WD} (hx : x.stage < 5) : Vc j (upd D i x) + 1 = Vc j D:=by
 have:=Vc_upd D x hi
 have c1 : cnt (D i) = 1:=by simp [cnt,h5]
 have c2 : cnt x = 0:=by simp [cnt]; omega
 omega
theorem Opn.upd (h : Opn j D) {x : WD} (hx : 5 ≤ x.stage ∨ x.stage = 1) : Opn j (upd D i x):=by
 intro a ha
 by_cases e : a = i
 ·
  subst e; rw [upd_same]; exact hx
 ·
  rw [upd_ne D _ e]; exact h a ha
theorem vc_same {x : WD} (hx : x.stage = (D i).stage) : Vc j (upd D i x) = Vc j D:=sumTo_congr fun a ha=>by
 by_cases e : a = i
 ·
  subst e; simp [upd_same,cnt,hx]
 ·
  rw [upd_ne D _ e]
theorem Md.same (h : Md j D tg st sm) {x : WD} (hx : x.stage = (D i).stage) : Md j (upd D i x) tg st sm:=by
 have hs : ∀ a,(upd D i x a).stage = (D a).stage:=fun a=>by
  by_cases e : a = i
  ·
   subst e; rw [upd_same,hx]
  ·
   rw [upd_ne D _ e]
 have hv : Vc j (upd D i x) = Vc j D:=vc_same hx
 cases h using Md.elim with
 | opn h1 h2 h3=>rw [← hv]; exact .opn h1 (fun a ha=>by rw [hs]; exact h2 a ha) (fun vs e=>by rw [hv]; exact h3 vs e)
 | reg h1 h2 h3=>rw [← hv]; exact .reg h1 (fun a ha=>by rw [hs]; exact h2 a ha) (by rw [hv]; exact h3)
 | last L h1 h2 h3 h4=>rw [← hs L]; exact .last L h1 h2 (by rw [hs]; exact h3) (fun a ha e=>by rw [hs]; exact h4 a ha e)
 | up h1 h2=>exact .up h1 fun a ha=>by rw [hs]; exact h2 a ha
 | fin h1 h2=>exact .fin h1 fun a ha=>by rw [hs]; exact h2 a ha
theorem Md.counted (h : Md j D tg st sm) (hi : i < j) (h5 : 5 ≤ (D i).stage) {x : WD} (hx : 5 ≤ x.stage) : Md j (upd D i x) tg st sm:=by
 have hv : Vc j (upd D i x) = Vc j D:=vc_keep hi h5 hx
 cases h using Md.elim with
 | opn h1 h2 h3=>rw [← hv]; exact .opn h1 (h2.upd (.inl hx)) (fun vs e=>by rw [hv]; exact h3 vs e)
 | reg h1 h2 h3=>rw [← hv]; exact .reg h1 (h2.upd (.inl hx)) (by rw [hv]; exact h3)
 | last L h1 h2 h3 h4 =>
  by_cases e : i = L
  ·
   subst e; omega
  ·
   have:=h4 i hi e; omega
 | up h1 h2=>have:=h2 i hi; omega
 | fin h1 h2=>have:=h2 i hi; omega
theorem Md.held (h : Md j D tg st sm) (hi : i < j) (h5 : 5 ≤ (D i).stage) (hb : j + pend tg ≤ 2147483647) : sm = 0 ∧ ∃ v wt : Nat,wt ≤ 1 ∧ v < 2147483647 ∧ st = (v + 1) * KK + wt ∧
  ((v = 0 ∧ wt = 1) → ∀ x : WD,x.stage = 4 → Md j (upd D i x) tg ((v : Int) * KK + wt) 0) ∧ (¬ (v = 0 ∧ wt = 1) → ∀ x : WD,x.stage = 1 → Md j (upd D i x) tg ((v : Int) * KK + wt) 0):=by
 have hle:=Vc_le j D
 have h1v : 1 ≤ Vc j D:=by
  have:=le_sumTo (f:=fun x=>cnt (D x)) hi
  have c : cnt (D i) = 1:=by simp [cnt,h5]
  simp only [Vc]; omega
 cases h using Md.elim with
 | opn h1 h2 h3 =>
  refine ⟨rfl,Vc j D + pend tg - 1,0,by omega,by omega,by simp only [KK]; omega,fun e=>by omega,fun _ x hx=>?_⟩
  have hd:=vc_drop (x:=x) hi h5 (by omega)
  have e : ((Vc j D + pend tg - 1 : Nat) : Int) * KK + ((0 : Nat) : Int) = ((Vc j (upd D i x) + pend tg : Nat) : Int) * KK:=by simp only [KK]; omega
  rw [e]
  exact .opn h1 (h2.upd (.inr hx)) (fun vs e=>by have:=h3 vs e; omega)
 | reg h1 h2 h3 =>
  refine ⟨rfl,Vc j D - 1,1,by omega,by omega,by simp only [KK]; omega,fun e x hx=>?_,fun e x hx=>?_⟩
  ·
   have hv1 : Vc j D = 1:=by omega
   have ho:=others_uncounted hi hv1 (by simp [cnt,h5])
   have e0 : ((Vc j D - 1 : Nat) : Int) * KK + ((1 : Nat) : Int) = if (upd D i x i).stage = 2 then 0 else 1:=by rw [upd_same,hx,hv1]; simp
   rw [e0]
   refine .last i h1 hi (.inl (by rw [upd_same,hx])) (fun a ha hne=>?_)
   rw [upd_ne D _ hne]
   have hc:=ho a ha hne
   refine (h2 a ha).resolve_left fun h5'=>?_
   simp [cnt,h5'] at hc
  ·
   have hd:=vc_drop (x:=x) hi h5 (by omega)
   have e0 : ((Vc j D - 1 : Nat) : Int) * KK + ((1 : Nat) : Int) = ((Vc j (upd D i x) : Nat) : Int) * KK + 1:=by simp only [KK]; omega
   rw [e0]
   exact .reg h1 (h2.upd (.inr hx)) (by omega)
 | last L h1 h2 h3 h4 =>
  by_cases e : i = L
  ·
   subst e; omega
  ·
   have:=h4 i hi e; omega
 | up h1 h2=>have:=h2 i hi; omega
 | fin h1 h2=>have:=h2 i hi; omega
theorem Md.isLast (h : Md j D tg st sm) (hi : i < j) (h4 : (D i).stage = 4 ∨ (D i).stage = 3 ∨ (D i).stage = 2) :
  mid tg ∧ (∀ a,a < j → a ≠ i → (D a).stage = 1) ∧ st = (if (D i).stage = 2 then 0 else 1) ∧ sm = 0:=by
 cases h using Md.elim with
 | opn _ h2 _=>have:=h2 i hi; omega
 | reg _ h2 _=>have:=h2 i hi; omega
 | last L h1 h2 h3 h5 =>
  by_cases e : i = L
  ·
   subst e; exact ⟨h1,h5,rfl,rfl⟩
  ·
   have:=h5 i hi e; omega
 | up _ h2=>have:=h2 i hi; omega
 | fin _ h2=>have:=h2 i hi; omega
theorem Md.down (h : Md j D tg st sm) (hi : i < j) (h4 : (D i).stage = 4 ∨ (D i).stage = 3 ∨ (D i).stage = 2) {x : WD} (hx : x.stage = 3 ∨ x.stage = 2) : Md j (upd D i x) tg (if x.stage = 2 then 0 else 1) 0:=by
 obtain ⟨h1,h2,_,_⟩:=h.isLast hi h4
 have:=Md.last (D:=upd D i x) i h1 hi (by rw [upd_same]; omega) (fun a ha e=>by rw [upd_ne D _ e]; exact h2 a ha e)
 rwa [upd_same] at this
theorem Md.raise (h : Md j D tg st sm) (hi : i < j) (h2 : (D i).stage = 2) (hb : tg' = tg ∨ tg = .bk ∧ tg' = .sm) (hnb : tg' ≠ .bk) {x : WD} (hx : x.stage = 1) : Md j (upd D i x) tg' 0 1:=by
 obtain ⟨h1,h3,_,_⟩:=h.isLast hi (.inr (.inr h2))
 refine .up ?_ (fun a ha=>?_)
 ·
  rcases hb with rfl | ⟨_,rfl⟩
  ·
   rcases h1 with h1 | h1 | h1
   ·
    exact .inl h1
   ·
    exact .inr h1
   ·
    exact absurd h1 hnb
  ·
   exact .inr rfl
 ·
  by_cases e : a = i
  ·
   subst e; rw [upd_same,hx]
  ·
   rw [upd_ne D _ e]; exact h3 a ha e
theorem Md.retag (h : Md j D tg st sm) (e : tg' = tg ∨ (tg = .bk ∧ tg' = .sm)) : Md j D tg' st sm:=by
 rcases e with rfl | ⟨rfl,rfl⟩
 ·
  exact h
 ·
  cases h using Md.elim with
  | opn h1 _ _=>exact h1.elim
  | reg _ h2 h3=>exact .reg (by simp [mid]) h2 h3
  | last L _ h2 h3 h4=>exact .last L (by simp [mid]) h2 h3 h4
  | up h1 h2=>rcases h1 with h | h <;> cases h
  | fin h1 _=>exact h1.elim
theorem rnk_retag (n v : Nat) (e : tg' = tg ∨ (tg = .bk ∧ tg' = .sm)) : rnk n v tg' = rnk n v tg:=by
 rcases e with rfl | ⟨rfl,rfl⟩ <;> rfl
theorem Md.early (h : Md j D tg st sm) (he : early tg) : Opn j D ∧ st = ((Vc j D + pend tg : Nat) : Int) * KK ∧ sm = 0 ∧ ∀ vs,tg = .sw vs → Vc j D ≤ vs ∧ 1 ≤ vs:=by
 cases h using Md.elim with
 | opn h1 h2 h3=>exact ⟨h2,rfl,rfl,h3⟩
 | reg h1 _ _=>exact (mid_early h1 he).elim
 | last L h1 _ _ _=>exact (mid_early h1 he).elim
 | up h1 _=>rcases h1 with rfl | rfl <;> exact he.elim
 | fin h1 _=>exact (late_early h1 he).elim
theorem Md.mk_early (h : Opn j D) (he : Wt.early tg) (hs : st = ((Vc j D + pend tg : Nat) : Int) * KK) (hvs : ∀ vs,tg = .sw vs → Vc j D ≤ vs ∧ 1 ≤ vs) : Md j D tg st 0:=by
 rw [hs]; exact .opn he h hvs
theorem Md.start {r s : Nat} (h : Md j D (.sp r s) st sm) (hs : s ≤ 4) (he : Wt.early tg) (hp : pend tg = 0) (hvs : ∀ vs,tg ≠ .sw vs) {x : WD} (hx : 5 ≤ x.stage) : Md (j + 1) (upd D j x) tg st sm:=by
 obtain ⟨h2,rfl,rfl,_⟩:=h.early trivial
 have e1 : Vc (j + 1) (upd D j x) = Vc j D + 1:=by
  simp only [Vc,sumTo,upd_same]
  rw [sumTo_congr (g:=fun a=>cnt (D a)) (fun a ha=>by rw [upd_ne D _ (by omega)])]
  simp [cnt,hx]
 refine Md.mk_early (fun a ha=>?_) he ?_ (fun vs e=>absurd e (hvs vs))
 ·
  by_cases e : a = j
  ·
   subst e; rw [upd_same]; exact .inl hx
  ·
   rw [upd_ne D _ e]; exact h2 a (by omega)
 ·
  rw [e1,hp]; simp [pends,hs]
theorem Md.atSema (h : Md j D .sm st sm) : ((∃ s,st = s) ∧ sm = 0 ∧ Md j D .bk st sm) ∨ (st = 0 ∧ sm = 1 ∧ Out j D):=by
 cases h using Md.elim with
 | opn h1 _ _=>exact h1.elim
 | reg _ h2 h3=>exact .inl ⟨⟨_,rfl⟩,rfl,.reg (by simp [mid]) h2 h3⟩
 | last L _ h2 h3 h4=>exact .inl ⟨⟨_,rfl⟩,rfl,.last L (by simp [mid]) h2 h3 h4⟩
 | up _ h2=>exact .inr ⟨rfl,rfl,h2⟩
 | fin h1 _=>exact h1.elim
theorem Md.wr_sm (h : Md j D .wr st sm) : Md j D .sm st sm:=by
 cases h using Md.elim with
 | opn h1 _ _=>exact h1.elim
 | reg _ h2 h3=>exact .reg (by simp [mid]) h2 h3
 | last L _ h2 h3 h4=>exact .last L (by simp [mid]) h2 h3 h4
 | up _ h2=>exact .up (.inr rfl) h2
 | fin h1 _=>exact h1.elim
theorem Md.late (h : Md j D tg st sm) (hl : late tg) : Out j D ∧ st = 0 ∧ sm = 0:=by
 cases h using Md.elim with
 | opn h1 _ _=>exact (late_early hl h1).elim
 | reg h1 _ _=>exact (mid_late h1 hl).elim
 | last L h1 _ _ _=>exact (mid_late h1 hl).elim
 | up h1 _=>rcases h1 with rfl | rfl <;> exact hl.elim
 | fin _ h2=>exact ⟨h2,rfl,rfl⟩
theorem Md.blocked (h : Md j D .bk st sm) : ∃ i,i < j ∧ (D i).stage ≠ 1:=by
 cases h using Md.elim with
 | opn h1 _ _=>exact h1.elim
 | reg _ h2 h3 =>
  refine Classical.byContradiction fun hn=>?_
  have ho : Out j D:=fun a ha=>Classical.byContradiction fun hne=>hn ⟨a,ha,hne⟩
  have:=ho.vc
  omega
 | last L _ h2 h3 _=>exact ⟨L,h2,by omega⟩
 | up h1 _=>rcases h1 with h | h <;> cases h
 | fin h1 _=>exact h1.elim
end
end Go.Proofs.YtkeapmmochpcfaaGreat.Wt
namespace Go.Proofs.YtkeapmmochpcfaaGreat.Wt
open Go Go.Conc
open Nf (Says More Adding Outs Again Sema Swap Looks InB Ph Adds)
open Go.ConcN (WD cnt Vc Ssum Fsum sumTo upd upd_ne upd_same WgLive Has PayAt RW DWs AtR0 WSit RelBy)
open Go.ConcR (KK WgAt stA smA rd wr mk Payload DC0)
set_option linter.unusedSectionVars false
variable [Payload]
def NoOwn : Nat → Loc → Prop:=fun _ _=>False
def Stay (b : Nat) (w w₁ : World) : Prop:=w₁.heap[b]? = w.heap[b]?
def lay (w : World) (o : Obj) : World:={ w with heap:=w.heap.push o }
section
variable (P : Program) (ty : TypeId) (Wg Ch : Nat) (v x : Value)
def Parts (b : Nat) (g : Goroutine) : Prop:=∃ m,∀ w,WgLive ty Wg w → Has b 0 x w → Goes P false (RW ty Wg b 1 0 0) (DWs Wg NoOwn NoOwn b 1 1) (AtR0 P ty Wg b 1 0 1 x) m g w
def AtSend (b : Nat) (g : Goroutine) (w : World) : Prop :=
 g.status = .running ∧ ∃ g2 z bl sh,stepG P false g w = .comm g2 #[scase Ch v z] bl sh w #[] ∧ Parts P ty Wg x b (g2.finishComm P #[scase Ch v z] sh 0 undef false)
def AtRead (b : Nat) (g : Goroutine) (w : World) : Prop :=
 g.status = .running ∧ ∃ g' es,stepG P false g w = .go g' w es ∧ (∀ e ∈ es,∃ a : Addr,a.block = b ∧ e = ⟨.cell a,false,false⟩) ∧ ∃ m,Goes P false (Stay b) DC0 (AtSend P ty Wg Ch v x b) m g' w
def AtBox (g : Goroutine) (w : World) : Prop :=
 g.status = .running ∧ ∃ o g',stepG P false g w = .go g' (lay w o) #[] ∧ Has w.heap.size 0 x (lay w o) ∧ ∃ m,Goes P false (Stay w.heap.size) DC0 (AtRead P ty Wg Ch v x w.heap.size) m g' (lay w o)
def Any (w w₁ : World) : Prop:=True
structure Wsit.Rules (C : Nat → Nat → Nat → Option Nat → Goroutine → World → Prop) : Prop where
 new : ∀ {m g w},Goes P false Any DC0 (AtBox P ty Wg Ch v x) m g w → C 10 m 0 none g w
 boxed : ∀ {m b g w},Goes P false (Stay b) DC0 (AtRead P ty Wg Ch v x b) m g w → Has b 0 x w → C 9 m 0 (some b) g w
 read : ∀ {m b g w},Goes P false (Stay b) DC0 (AtSend P ty Wg Ch v x b) m g w → Has b 0 x w → C 8 m 0 (some b) g w
 lib : ∀ {s m d b g w},WSit P ty Wg b 1 NoOwn NoOwn 0 1 x s m d g w → s ≤ 7 → C s m d (some b) g w
def Wsit (s : Nat) (m : Nat) (d : Nat) (bx : Option Nat) (g : Goroutine) (w : World) : Prop:=∀ C,Wsit.Rules P ty Wg Ch v x C → C s m d bx g w
end
section
variable {P : Program} {ty : TypeId} {Wg Ch : Nat} {v x : Value}
theorem Wsit.new {m g w} (h0 : Goes P false Any DC0 (AtBox P ty Wg Ch v x) m g w) : Wsit P ty Wg Ch v x 10 m 0 none g w:=fun _ r=>r.new h0
theorem Wsit.boxed {m b g w} (h0 : Goes P false (Stay b) DC0 (AtRead P ty Wg Ch v x b) m g w) (h1 : Has b 0 x w) : Wsit P ty Wg Ch v x 9 m 0 (some b) g w:=fun _ r=>r.boxed h0 h1
theorem Wsit.read {m b g w} (h0 : Goes P false (Stay b) DC0 (AtSend P ty Wg Ch v x b) m g w) (h1 : Has b 0 x w) : Wsit P ty Wg Ch v x 8 m 0 (some b) g w:=fun _ r=>r.read h0 h1
theorem Wsit.lib {s m d b g w} (h0 : WSit P ty Wg b 1 NoOwn NoOwn 0 1 x s m d g w) (h1 : s ≤ 7) : Wsit P ty Wg Ch v x s m d (some b) g w:=fun _ r=>r.lib h0 h1
theorem Wsit.elim {motive : ∀ s m d bx g w,Wsit P ty Wg Ch v x s m d bx g w → Prop}
  (new : ∀ {m g w} (h0 : Goes P false Any DC0 (AtBox P ty Wg Ch v x) m g w),motive 10 m 0 none g w (.new h0))
  (boxed : ∀ {m b g w} (h0 : Goes P false (Stay b) DC0 (AtRead P ty Wg Ch v x b) m g w) (h1 : Has b 0 x w),motive 9 m 0 (some b) g w (.boxed h0 h1))
  (read : ∀ {m b g w} (h0 : Goes P false (Stay b) DC0 (AtSend P ty Wg Ch v x b) m g w) (h1 : Has b 0 x w),motive 8 m 0 (some b) g w (.read h0 h1))
  (lib : ∀ {s m d b g w} (h0 : WSit P ty Wg b 1 NoOwn NoOwn 0 1 x s m d g w) (h1 : s ≤ 7),motive s m d (some b) g w (.lib h0 h1)) {s m d bx g w} (t : Wsit P ty Wg Ch v x s m d bx g w) : motive s m d bx g w t :=
 t (fun s m d bx g w=>∀ t,motive s m d bx g w t) ⟨fun h0 _=>new h0,fun h0 h1 _=>boxed h0 h1,fun h0 h1 _=>read h0 h1,fun h0 h1 _=>lib h0 h1⟩ t
end
section
variable (P : Program) (ty : TypeId) (Wg Ch : Nat) (v x : Value)
structure Left (bx : Option Nat) (w w₁ : World) : Prop where
 live : WgLive ty Wg w → WgLive ty Wg w₁
 box : ∀ b,bx = some b → w₁.heap[b]? = w.heap[b]?
end
section
variable {P : Program} {ty : TypeId} {Wg Ch : Nat} {v x : Value} {s m d : Nat} {bx : Option Nat} {g : Goroutine} {w w₁ w₂ : World}
theorem runs_of {main : Bool} {R : World → World → Prop} {D : World → World → Array Event → Prop} {Stop : Goroutine → World → Prop} {n : Nat} (hS : ∀ g w,Stop g w → g.status = .running) (hr : R w w) (h : Goes P main R D Stop n g w) : g.status = .running:=Goes.running hS w hr h
theorem Left.refl (w : World) : Left ty Wg bx w w:=⟨id,fun _ _=>rfl⟩
theorem Left.at (w : World) (d : Nat) : Left ty Wg bx w (w.at d):=⟨id,fun _ _=>rfl⟩
theorem stay_trans (b : Nat) : ∀ a c e,Stay b a c → Stay b c e → Stay b a e:=fun _ _ _ h h'=>h'.trans h
theorem has_stay {b o : Nat} {y : Value} (h : Has b o y w) (hs : w₁.heap[b]? = w.heap[b]?) : Has b o y w₁:=(Go.ConcN.cell_of_block hs o).trans h
theorem rw_left {b : Nat} (h : Left ty Wg (some b) w w₁) : RW ty Wg b 1 0 (1 - 1) w w₁ :=
 ⟨fun _ hb=>absurd hb (Nat.not_lt_zero _),h.live,fun ⟨cs,hc,hn⟩=>⟨cs,(h.box b rfl).trans hc,hn⟩,Go.ConcN.cell_of_block (h.box b rfl) 0⟩
theorem Wsit.rely (h : Wsit P ty Wg Ch v x s m d bx g w) (hl : Left ty Wg bx w w₁) : Wsit P ty Wg Ch v x s m d bx g w₁:=by
 cases h using Wsit.elim with
 | new h=>exact .new (Goes.rely (fun _ _ _ _ _=>trivial) h trivial)
 | boxed h hh=>exact .boxed (Goes.rely (stay_trans _) h (hl.box _ rfl)) (has_stay hh (hl.box _ rfl))
 | read h hh=>exact .read (Goes.rely (stay_trans _) h (hl.box _ rfl)) (has_stay hh (hl.box _ rfl))
 | lib h hs=>exact .lib (h.rely (rw_left hl)) hs
theorem Wsit.status (h : Wsit P ty Wg Ch v x s m d bx g w) : g.status = .running ∨ g.status = .finished:=by
 cases h using Wsit.elim with
 | new h=>exact .inl (runs_of (fun _ _ y=>y.1) (show Any w w from trivial) h)
 | boxed h _=>exact .inl (runs_of (fun _ _ y=>y.1) (show Stay _ w w from rfl) h)
 | read h _=>exact .inl (runs_of (fun _ _ y=>y.1) (show Stay _ w w from rfl) h)
 | lib h _=>exact h.status
theorem Wsit.running (h : Wsit P ty Wg Ch v x s m d bx g w) (hs : s ≠ 1) : g.status = .running:=by
 cases h using Wsit.elim with
 | new h=>exact runs_of (fun _ _ y=>y.1) (show Any w w from trivial) h
 | boxed h _=>exact runs_of (fun _ _ y=>y.1) (show Stay _ w w from rfl) h
 | read h _=>exact runs_of (fun _ _ y=>y.1) (show Stay _ w w from rfl) h
 | lib h _=>exact h.running_of hs
theorem Wsit.woken (h : Wsit P ty Wg Ch v x s m d bx g w) (a a' : Goroutine) (w' : World) : woken P a a' w' g = g:=by
 unfold Go.Conc.woken
 split
 ·
  exact again_running _ h.status
 ·
  rfl
end
section
variable (P : Program) (ty : TypeId) (Wg : Nat) (la : Nat → Prop)
structure RS (os : List Nat) (w w₁ : World) : Prop where
 list : ∀ b,la b → w₁.heap[b]? = w.heap[b]?
 own : ∀ b,b ∈ os → w₁.heap[b]? = w.heap[b]?
 live : WgLive ty Wg w → WgLive ty Wg w₁
structure DS (os : List Nat) (w w' : World) (es : Array Event) : Prop where
 size : w'.heap.size = w.heap.size
 sys : w'.os = w.os ∧ w'.output = w.output
 others : ∀ b,b ∉ os → w'.heap[b]? = w.heap[b]?
 events : ∀ e ∈ es,∃ (a : Addr) (wr : Bool),e = ⟨.cell a,wr,false⟩ ∧ (a.block ∈ os ∨ (la a.block ∧ wr = false))
theorem DS.of_dc0 {os : List Nat} {w w' : World} {es : Array Event} (h : DC0 w w' es) : DS la os w w' es:=by
 obtain ⟨rfl,rfl⟩:=h
 exact ⟨rfl,⟨rfl,rfl⟩,fun _ _=>rfl,fun e he=>by simp at he⟩
def AtGo (Ch : Nat) (v x : Value) (Nx : Goroutine → World → Prop) (g : Goroutine) (w : World) : Prop :=
 g.status = .running ∧ ∃ g' child,stepG P true g w = .spawn g' child w #[] ∧ (∃ m,Goes P false Any DC0 (AtBox P ty Wg Ch v x) m child w) ∧ Nx g' w
def Allots (Nx : Nat → Goroutine → World → Prop) (g : Goroutine) (w : World) : Prop :=
 g.status = .running ∧ ∃ o g',stepG P true g w = .go g' (lay w o) #[] ∧ Nx w.heap.size g' (lay w o)
def Script (Ch n : Nat) (v x : Nat → Value) (Fi : List Nat → Goroutine → World → Prop) : Nat → List Nat → Goroutine → World → Prop
 | 0,os,g,w=>Fi os g w
 | r + 1,os,g,w=>∃ m,Goes P true (RS ty Wg la os) (DS la os) (Allots P fun b g' w'=>∃ m' m2,Goes P true (RS ty Wg la (b :: os)) (DS la (b :: os))
   (Adding P (RS ty Wg la (b :: os)) ty Wg fun g2 w2=>Goes P true (RS ty Wg la (b :: os)) (DS la (b :: os)) (AtGo P ty Wg Ch (v (n - (r + 1))) (x (n - (r + 1))) (Script Ch n v x Fi r (b :: os))) m2 g2 w2)
   m' g' w') m g w
end
section
variable {P : Program} {ty : TypeId} {Wg : Nat} {la : Nat → Prop} {os : List Nat} {w w₁ w₂ : World}
theorem RS.refl (w : World) : RS ty Wg la os w w:=⟨fun _ _=>rfl,fun _ _=>rfl,id⟩
theorem RS.trans (h : RS ty Wg la os w w₁) (h' : RS ty Wg la os w₁ w₂) : RS ty Wg la os w w₂:=⟨fun b hb=>(h'.list b hb).trans (h.list b hb),fun b hb=>(h'.own b hb).trans (h.own b hb),h'.live ∘ h.live⟩
theorem RS.at (w : World) (d : Nat) : RS ty Wg la os w (w.at d):=⟨fun _ _=>rfl,fun _ _=>rfl,id⟩
theorem goes_weak {main : Bool} {R : World → World → Prop} {D D' : World → World → Array Event → Prop} {Stop : Goroutine → World → Prop} (hD : ∀ w w' es,D w w' es → D' w w' es) :
  ∀ {n : Nat} {g : Goroutine} {w : World},Goes P main R D Stop n g w → Goes P main R D' Stop n g w
 | 0,_,_,h=>h
 | n + 1,g,w,h=>h.imp id fun ⟨hs,h⟩=>⟨hs,fun w₁ h₁=>by
   have:=h w₁ h₁
   revert this
   cases stepG P main g w₁ with
   | go g' w' es=>exact fun ⟨a,b⟩=>⟨hD _ _ _ a,goes_weak hD b⟩
   | _=>exact id⟩
theorem goes_flat {main : Bool} {R : World → World → Prop} {D : World → World → Array Event → Prop} {Stop : Goroutine → World → Prop} (hr : ∀ w,R w w) {m : Nat} :
  ∀ {n : Nat} {g : Goroutine} {w : World},Goes P main R D (fun g w=>Goes P main R D Stop m g w) n g w → Goes P main R D Stop (n + m) g w
 | 0,g,w,h=>by rw [Nat.zero_add]; exact h w (hr w)
 | n + 1,g,w,h=>by
  rcases h with h | ⟨hs,h⟩
  ·
   exact Go.Proofs.YtkeapmmochpcfaaGreat.Nf.goes_le (h w (hr w)) (by omega)
  ·
   rw [Nat.add_right_comm]
   refine .inr ⟨hs,fun w₁ h₁=>?_⟩
   have:=h w₁ h₁
   revert this
   cases stepG P main g w₁ with
   | go g' w' es=>exact fun ⟨a,b⟩=>⟨a,goes_flat hr b⟩
   | _=>exact id
end
end Go.Proofs.YtkeapmmochpcfaaGreat.Wt
namespace Go.Proofs.YtkeapmmochpcfaaGreat.Wt
open Go Go.Conc
open Nf (InB Ph Adds)
open Go.ConcN (WD cnt Vc Ssum Fsum sumTo upd upd_ne upd_same WgLive Has RelBy get_map_set get_map_set_same)
open Go.ConcR (KK WgAt stA smA Payload DC0 g_of_ofEvents)
set_option linter.unusedSectionVars false
variable [Payload]
section
variable (P : Program) (ty : TypeId) (Wg Ch cap : Nat) (v x : Nat → Value) (Shun : Loc → Prop) (la : Nat → Prop) (T0 N0 : Nat) (w0 : World) (B0 : Nat)
structure Lie (bx : Nat → Option Nat) (os : List Nat) (w : World) : Prop where
 box : ∀ k b,bx k = some b → b ≠ Ch ∧ ¬ la b ∧ b ∉ os ∧ B0 ≤ b
 wg : Wg ≠ Ch ∧ ¬ la Wg ∧ Wg ∉ os
 ch : ¬ la Ch ∧ Ch ∉ os
 list : ∀ b,la b → b < w.heap.size
 own : ∀ b,b ∈ os → b < w.heap.size ∧ B0 ≤ b
 chl : Ch < w.heap.size
 base : ∀ b,b < B0 → b ≠ Wg → b ≠ Ch → w.heap[b]? = w0.heap[b]?
 size : B0 ≤ w.heap.size
 sys : w.os = w0.os ∧ w.output = w0.output
structure Cm (j : Nat) (gs : Array Goroutine) (w : World) (t : Trace) (D : Nat → WD) (bx : Nat → Option Nat) (os : List Nat) (d0 : Nat) (q : Nat → Nat) (l : List Nat) : Prop where
 size : gs.size = N0 + j
 wk : ∀ i,i < j → ∃ g,gs[N0 + i]? = some g ∧ Wsit P ty Wg Ch (v i) (x i) (D i).stage (D i).fuel (D i).deaf (bx (N0 + i)) g w
 old : ∀ i g,0 < i → i < N0 → gs[i]? = some g → QuitsD P (q i) (Deaf t i) g
 above : ∀ k,N0 + j ≤ k → Deaf t k = 0
 ph : Ph Shun T0 Wg N0 j bx w.heap.size t
 deaf0 : Deaf t 0 = d0
 deafW : ∀ i,i < j → Deaf t (N0 + i) = (D i).deaf
 rel : ∀ i,i < j → (D i).stage ≤ 6 → ∃ r,RelBy (stA Wg) t (N0 + i) r ∧ T0 ≤ r
 chan : ∃ tm,w.heap[Ch]? = some (.chan cap (l.map v).toArray false l.length 0 tm)
 perm : l.Perm ((List.range j).filter fun i=>decide ((D i).stage ≤ 7))
 lie : Lie Wg Ch la w0 B0 bx os w
end
section
variable {P : Program} {ty : TypeId} {Wg Ch cap : Nat} {v x : Nat → Value} {Shun : Loc → Prop} {la : Nat → Prop} {T0 N0 : Nat} {w0 : World} {B0 : Nat}
  {j : Nat} {gs : Array Goroutine} {w w' : World} {t : Trace} {D : Nat → WD} {bx : Nat → Option Nat} {os : List Nat} {d0 : Nat} {q : Nat → Nat} {l : List Nat}
theorem Cm.at (h : Cm P ty Wg Ch cap v x Shun la T0 N0 w0 B0 j gs w t D bx os d0 q l) (d : Nat) : Cm P ty Wg Ch cap v x Shun la T0 N0 w0 B0 j gs (w.at d) t D bx os d0 q l :=
 ⟨h.size,fun i hi=>let ⟨g,hg,hs⟩:=h.wk i hi; ⟨g,hg,hs.rely (Left.at w d)⟩,h.old,h.above,h.ph,h.deaf0,h.deafW,h.rel,h.chan,h.perm,⟨h.lie.box,h.lie.wg,h.lie.ch,h.lie.list,h.lie.own,h.lie.chl,h.lie.base,h.lie.size,h.lie.sys⟩⟩
theorem filter_same {i : Nat} {y : WD} (h : y.stage ≤ 7 ↔ (D i).stage ≤ 7) : ((List.range j).filter fun a=>decide ((upd D i y a).stage ≤ 7)) = (List.range j).filter fun a=>decide ((D a).stage ≤ 7):=by
 congr 1
 funext a
 by_cases e : a = i
 ·
  subst e; rw [upd_same]; simp [h]
 ·
  rw [upd_ne D _ e]
theorem Cm.stepW (h : Cm P ty Wg Ch cap v x Shun la T0 N0 w0 B0 j gs w t D bx os d0 q l) {i : Nat} (hi : i < j) {g g' : Goroutine} {fn : FuncId} {pos : String} {es : Array Event} {y : WD} {bx' : Nat → Option Nat}
  (hsit : Wsit P ty Wg Ch (v i) (x i) y.stage y.fuel y.deaf (bx' (N0 + i)) g' w') (hleft : ∀ i',i' < j → i' ≠ i → Left ty Wg (bx (N0 + i')) w w') (hbx : ∀ k,k ≠ N0 + i → bx' k = bx k)
  (hph : Ph Shun T0 Wg N0 j bx' w'.heap.size (t ++ MemOp.ofEvents (N0 + i) fn pos es)) (hdeaf : deafBehind (D i).deaf es = y.deaf)
  (hrel : y.stage ≤ 6 → ∃ r,RelBy (stA Wg) (t ++ MemOp.ofEvents (N0 + i) fn pos es) (N0 + i) r ∧ T0 ≤ r) (hch : w'.heap[Ch]? = w.heap[Ch]?) (hst : y.stage ≤ 7 ↔ (D i).stage ≤ 7) (hlie : Lie Wg Ch la w0 B0 bx' os w') :
  Cm P ty Wg Ch cap v x Shun la T0 N0 w0 B0 j ((gs.map (woken P g g' w')).setIfInBounds (N0 + i) g') w' (t ++ MemOp.ofEvents (N0 + i) fn pos es) (upd D i y) bx' os d0 q l:=by
 have hpos:=h.ph.pos
 refine ⟨by simp [h.size],fun i' hi'=>?_,fun k z h0 hk hz=>?_,fun k hk=>?_,hph,?_,fun i' hi'=>?_,fun i' hi' hs=>?_,?_,by rw [filter_same hst]; exact h.perm,hlie⟩
 ·
  by_cases e : i' = i
  ·
   subst e
   exact ⟨g',get_map_set_same _ _ _ (by rw [h.size]; omega),by rw [upd_same]; exact hsit⟩
  ·
   obtain ⟨z,hz,hsz⟩:=h.wk i' hi'
   refine ⟨z,by rw [get_map_set _ _ _ _ (by omega),hz,Option.map_some,hsz.woken],?_⟩
   rw [upd_ne D _ e,hbx _ (by omega)]
   exact hsz.rely (hleft i' hi' e)
 ·
  rw [get_map_set _ _ _ _ (by omega)] at hz
  obtain ⟨z',hz',rfl⟩:=Option.map_eq_some_iff.1 hz
  have hq:=h.old k z' h0 hk hz'
  rw [woken_quitsD hq,Deaf_other t (by omega) _ g_of_ofEvents]
  exact hq
 ·
  rw [Deaf_other t (by omega) _ g_of_ofEvents]; exact h.above k hk
 ·
  rw [Deaf_other t (by omega) _ g_of_ofEvents,h.deaf0]
 ·
  by_cases e : i' = i
  ·
   subst e; rw [Deaf_own,h.deafW i' hi',upd_same]; exact hdeaf
  ·
   rw [Deaf_other t (by omega) _ g_of_ofEvents,h.deafW i' hi',upd_ne D _ e]
 ·
  by_cases e : i' = i
  ·
   subst e; rw [upd_same] at hs; exact hrel hs
  ·
   rw [upd_ne D _ e] at hs
   obtain ⟨r,hr,hT⟩:=h.rel i' hi' hs
   exact ⟨r,hr.appOther g_of_ofEvents (by omega),hT⟩
 ·
  rw [hch]; exact h.chan
theorem Cm.stepL (h : Cm P ty Wg Ch cap v x Shun la T0 N0 w0 B0 j gs w t D bx os d0 q l) {k : Nat} (h0 : 0 < k) (hk : k < N0) {g g' : Goroutine} {fn : FuncId} {pos : String} {es : Array Event} {n' : Nat}
  (hm : ∀ e ∈ es,Event.mute e = true) (hq' : QuitsD P n' (deafBehind (Deaf t k) es) g') :
  Cm P ty Wg Ch cap v x Shun la T0 N0 w0 B0 j ((gs.map (woken P g g' w)).setIfInBounds k g') w (t ++ MemOp.ofEvents k fn pos es) D bx os d0 (upd q k n') l:=by
 have hns : ∀ op ∈ MemOp.ofEvents k fn pos es,op.act.touch? = none:=fun op hop=>by
  obtain ⟨e,he,rfl⟩:=Go.Conc.mem_ofEvents hop
  exact touch_mute (hm e he)
 have hrelm : ∀ op ∈ MemOp.ofEvents k fn pos es,op.act ≠ .mark (.release (stA Wg)):=fun op hop he=>by
  obtain ⟨e,hem,rfl⟩:=Go.Conc.mem_ofEvents hop
  have:=hm e hem
  have hl:=Go.ConcR.loc_of_ofEvent he
  obtain ⟨loc,wr,sy⟩:=e
  simp only at hl
  subst hl
  simp [Event.mute] at this
 refine ⟨by simp [h.size],fun i hi=>?_,fun k' z h0' hk' hz=>?_,fun k' hk'=>?_,h.ph.app (g:=k) (.inr (.inr hns)) (fun op hop=>⟨g_of_ofEvents op hop,fun b hb=>absurd ((hns op hop).symm.trans hb) (by simp),hrelm op hop,fun b hb=>absurd ((hns op hop).symm.trans hb) (by simp)⟩),?_,fun i hi=>?_,fun i hi hs=>?_,h.chan,h.perm,h.lie⟩
 ·
  obtain ⟨z,hz,hsz⟩:=h.wk i hi
  exact ⟨z,by rw [get_map_set _ _ _ _ (by omega),hz,Option.map_some,hsz.woken],hsz⟩
 ·
  by_cases e : k' = k
  ·
   subst e
   rw [get_map_set_same _ _ _ (by rw [h.size]; omega)] at hz
   cases hz
   rw [Deaf_own,upd_same]
   exact hq'
  ·
   rw [get_map_set _ _ _ _ (by omega)] at hz
   obtain ⟨z',hz',rfl⟩:=Option.map_eq_some_iff.1 hz
   have hq:=h.old k' z' h0' hk' hz'
   rw [woken_quitsD hq,Deaf_other t (by omega) _ g_of_ofEvents,upd_ne q _ e]
   exact hq
 ·
  rw [Deaf_other t (by omega) _ g_of_ofEvents]; exact h.above k' hk'
 ·
  rw [Deaf_other t (by omega) _ g_of_ofEvents,h.deaf0]
 ·
  rw [Deaf_other t (by omega) _ g_of_ofEvents,h.deafW i hi]
 ·
  obtain ⟨r,hr,hT⟩:=h.rel i hi hs
  exact ⟨r,hr.appOther g_of_ofEvents (by omega),hT⟩
theorem Cm.step0 (h : Cm P ty Wg Ch cap v x Shun la T0 N0 w0 B0 j gs w t D bx os d0 q l) {g g' : Goroutine} {fn : FuncId} {pos : String} {es : Array Event} {os' : List Nat}
  (hleft : ∀ i,i < j → Left ty Wg (bx (N0 + i)) w w') (hph : Ph Shun T0 Wg N0 j bx w'.heap.size (t ++ MemOp.ofEvents 0 fn pos es)) (hch : w'.heap[Ch]? = w.heap[Ch]?) (hlie : Lie Wg Ch la w0 B0 bx os' w') :
  Cm P ty Wg Ch cap v x Shun la T0 N0 w0 B0 j ((gs.map (woken P g g' w')).setIfInBounds 0 g') w' (t ++ MemOp.ofEvents 0 fn pos es) D bx os' (deafBehind d0 es) q l:=by
 have hpos:=h.ph.pos
 refine ⟨by simp [h.size],fun i hi=>?_,fun k z h0 hk hz=>?_,fun k hk=>?_,hph,?_,fun i hi=>?_,fun i hi hs=>?_,?_,h.perm,hlie⟩
 ·
  obtain ⟨z,hz,hsz⟩:=h.wk i hi
  exact ⟨z,by rw [get_map_set _ _ _ _ (by omega),hz,Option.map_some,hsz.woken],hsz.rely (hleft i hi)⟩
 ·
  rw [get_map_set _ _ _ _ (by omega)] at hz
  obtain ⟨z',hz',rfl⟩:=Option.map_eq_some_iff.1 hz
  have hq:=h.old k z' h0 hk hz'
  rw [woken_quitsD hq,Deaf_other t (by omega) _ g_of_ofEvents]
  exact hq
 ·
  rw [Deaf_other t (by omega) _ g_of_ofEvents]; exact h.above k hk
 ·
  rw [Deaf_own,h.deaf0]
 ·
  rw [Deaf_other t (by omega) _ g_of_ofEvents,h.deafW i hi]
 ·
  obtain ⟨r,hr,hT⟩:=h.rel i hi hs
  exact ⟨r,hr.appOther g_of_ofEvents (by omega),hT⟩
 ·
  rw [hch]; exact h.chan
end
end Go.Proofs.YtkeapmmochpcfaaGreat.Wt
namespace Go.Proofs.YtkeapmmochpcfaaGreat.Wt
open Go Go.Conc
open Nf (InB Ph Adds)
open Go.ConcN (WD cnt Vc Ssum Fsum sumTo upd upd_ne upd_same WgLive Has RelBy Deaf_still)
open Go.ConcR (KK WgAt stA smA Payload DC0 g_of_ofEvents)
set_option linter.unusedSectionVars false
variable [Payload]
section
variable {P : Program} {ty : TypeId} {Wg Ch cap : Nat} {v x : Nat → Value} {Shun : Loc → Prop} {la : Nat → Prop} {T0 N0 : Nat} {w0 : World} {B0 : Nat}
  {j : Nat} {gs : Array Goroutine} {w w' : World} {t u : Trace} {D : Nat → WD} {bx : Nat → Option Nat} {os : List Nat} {d0 : Nat} {q : Nat → Nat} {l : List Nat}
theorem rel_still {a : Addr} {k r : Nat} (h : RelBy a t k r) (hn : ∀ op ∈ u,op.act.touch? = none) : RelBy a (t ++ u) k r:=by
 refine h.app fun i hi _ hc=>?_
 obtain ⟨y,hy,_⟩:=hc
 obtain ⟨op,ho,hoa⟩:=touch_of hy
 rcases getElem?_append_cases ho with ⟨hlt,_⟩ | ⟨_,hou⟩
 ·
  omega
 ·
  rw [hn op hou] at hoa; cases hoa
def Mute3 (Wg : Nat) (op : MemOp) : Prop:=op.act.touch? = none ∧ op.act ≠ .mark .disable ∧ op.act ≠ .mark .enable ∧ op.act ≠ .mark (.release (stA Wg))
theorem deaf_still {g : Nat} (hu : ∀ op ∈ u,Mute3 Wg op) : Deaf (t ++ u) g = Deaf t g:=Deaf_still t g u fun op hop=>⟨(hu op hop).2.1,(hu op hop).2.2.1⟩
theorem live_block {w w₁ : World} (h : w₁.heap[Wg]? = w.heap[Wg]?) : WgLive ty Wg w → WgLive ty Wg w₁:=fun ⟨st,sm,hl⟩=>⟨st,sm,h.trans hl⟩
theorem room (hp : l.Perm ((List.range j).filter fun i=>decide ((D i).stage ≤ 7))) {i : Nat} (hi : i < j) (h8 : 8 ≤ (D i).stage) : l.length < j:=by
 rw [hp.length_eq]
 have:=List.length_filter_lt_length_iff_exists (l:=List.range j) (p:=fun i=>decide ((D i).stage ≤ 7)) |>.2 ⟨i,by simpa using hi,by simp; omega⟩
 simpa using this
theorem perm_send (hp : l.Perm ((List.range j).filter fun i=>decide ((D i).stage ≤ 7))) {i : Nat} (hi : i < j) (h8 : 8 ≤ (D i).stage) {y : WD} (hy : y.stage ≤ 7) : (l ++ [i]).Perm ((List.range j).filter fun a=>decide ((upd D i y a).stage ≤ 7)):=by
 rw [List.perm_iff_count] at hp ⊢
 intro a
 rw [List.count_append,hp a]
 by_cases e : a = i
 ·
  subst e
  have h1 : List.count a ((List.range j).filter fun i=>decide ((D i).stage ≤ 7)) = 0:=by
   rw [List.count_eq_zero]
   simp; intro _; omega
  have h2 : List.count a ((List.range j).filter fun b=>decide ((upd D a y b).stage ≤ 7)) = 1:=by
   rw [List.count_filter (by rw [upd_same]; simpa using hy),List.nodup_range.count]
   simp [hi]
  rw [h1,h2]; simp
 ·
  have h3 : List.count a [i] = 0:=by rw [List.count_eq_zero]; simpa using e
  rw [h3,Nat.add_zero]
  by_cases hs : (D a).stage ≤ 7
  ·
   rw [List.count_filter (by simpa using hs),List.count_filter (by rw [upd_ne D _ e]; simpa using hs)]
  ·
   rw [List.count_eq_zero.2 (by simp; intro _; omega),List.count_eq_zero.2 (by simp [upd_ne D _ e]; intro _; omega)]
theorem Cm.send (h : Cm P ty Wg Ch cap v x Shun la T0 N0 w0 B0 j gs w t D bx os d0 q l) {i : Nat} (hi : i < j) {g' : Goroutine} {m : Nat} (h8 : (D i).stage = 8) (hd : (D i).deaf = 0)
  {tm : Bool} (hch : w.heap[Ch]? = some (.chan cap (l.map v).toArray false l.length 0 tm)) (hu : ∀ op ∈ u,Mute3 Wg op)
  (hsit : Wsit P ty Wg Ch (v i) (x i) 7 m 0 (bx (N0 + i)) g' (w.setChan Ch cap ((l.map v).toArray.push (v i)) false (l.length + 1) 0 tm)) :
  Cm P ty Wg Ch cap v x Shun la T0 N0 w0 B0 j (gs.setIfInBounds (N0 + i) g') (w.setChan Ch cap ((l.map v).toArray.push (v i)) false (l.length + 1) 0 tm) (t ++ u) (upd D i ⟨7,m,0⟩) bx os d0 q (l ++ [i]):=by
 have hpos:=h.ph.pos
 have hn : ∀ op ∈ u,op.act.touch? = none:=fun op hop=>(hu op hop).1
 have hne : ∀ b,b ≠ Ch → (w.setChan Ch cap ((l.map v).toArray.push (v i)) false (l.length + 1) 0 tm).heap[b]? = w.heap[b]?:=fun b hb=>heap_setChan_ne w _ _ _ _ _ _ (Ne.symm hb)
 have hsz : (w.setChan Ch cap ((l.map v).toArray.push (v i)) false (l.length + 1) 0 tm).heap.size = w.heap.size:=by simp [World.setChan]
 refine ⟨by simp [h.size],fun i' hi'=>?_,fun k z h0 hk hz=>?_,fun k hk=>?_,?_,?_,fun i' hi'=>?_,fun i' hi' hs=>?_,⟨tm,?_⟩,perm_send h.perm hi (by omega) (by simp),⟨h.lie.box,h.lie.wg,h.lie.ch,fun b hb=>by rw [hsz]; exact h.lie.list b hb,fun b hb=>by rw [hsz]; exact h.lie.own b hb,by rw [hsz]; exact h.lie.chl,fun b hb h1 h2=>(hne b h2).trans (h.lie.base b hb h1 h2),by rw [hsz]; exact h.lie.size,h.lie.sys⟩⟩
 ·
  by_cases e : i' = i
  ·
   subst e
   exact ⟨g',Array.getElem?_setIfInBounds_self_of_lt (by rw [h.size]; omega),by rw [upd_same]; exact hsit⟩
  ·
   obtain ⟨z,hz,hsz'⟩:=h.wk i' hi'
   refine ⟨z,by rw [Array.getElem?_setIfInBounds_ne (by omega)]; exact hz,?_⟩
   rw [upd_ne D _ e]
   exact hsz'.rely ⟨live_block (hne _ h.lie.wg.1),fun b hb=>hne b (h.lie.box _ b hb).1⟩
 ·
  rw [Array.getElem?_setIfInBounds_ne (by omega)] at hz
  rw [deaf_still hu]
  exact h.old k z h0 hk hz
 ·
  rw [deaf_still hu]; exact h.above k hk
 ·
  rw [hsz]
  exact Ph.fork (Nat.le_refl _) h.ph hn (fun op hop=>(hu op hop).2.2.2)
 ·
  rw [deaf_still hu,h.deaf0]
 ·
  rw [deaf_still hu,h.deafW i' hi']
  by_cases e : i' = i
  ·
   subst e; rw [upd_same,hd]
  ·
   rw [upd_ne D _ e]
 ·
  have hs' : i' ≠ i ∧ (D i').stage ≤ 6:=by
   by_cases e : i' = i
   ·
    subst e; rw [upd_same] at hs; simp at hs
   ·
    rw [upd_ne D _ e] at hs; exact ⟨e,hs⟩
  obtain ⟨r,hr,hT⟩:=h.rel i' hi' hs'.2
  exact ⟨r,rel_still hr hn,hT⟩
 ·
  rw [heap_setChan_self w hch]
  simp
theorem Cm.start (h : Cm P ty Wg Ch cap v x Shun la T0 N0 w0 B0 j gs w t D bx os d0 q l) {g' child : Goroutine} {m : Nat} (hu : ∀ op ∈ u,Mute3 Wg op) (hc : Goes P false Any DC0 (AtBox P ty Wg Ch (v j) (x j)) m child w) :
  Cm P ty Wg Ch cap v x Shun la T0 N0 w0 B0 (j + 1) ((gs.setIfInBounds 0 g').push child) w (t ++ u) (upd D j ⟨10,m,0⟩) bx os d0 q l:=by
 have hpos:=h.ph.pos
 have hn : ∀ op ∈ u,op.act.touch? = none:=fun op hop=>(hu op hop).1
 have hnb : bx (N0 + j) = none:=by
  cases e : bx (N0 + j) with
  | none=>rfl
  | some b=>have:=(h.ph.boxes _ _ e).2.2.2; omega
 have hget : ∀ k,k < N0 + j → k ≠ 0 → ((gs.setIfInBounds 0 g').push child)[k]? = gs[k]?:=fun k hk h0=>by
  rw [Array.getElem?_push_lt (by simp [h.size]; omega),← Array.getElem?_eq_getElem,Array.getElem?_setIfInBounds_ne (by omega)]
 refine ⟨by simp [h.size]; omega,fun i hi=>?_,fun k z h0 hk hz=>?_,fun k hk=>?_,Ph.fork (Nat.le_succ _) h.ph hn (fun op hop=>(hu op hop).2.2.2),by rw [deaf_still hu,h.deaf0],fun i hi=>?_,fun i hi hs=>?_,h.chan,?_,h.lie⟩
 ·
  rcases Nat.lt_or_ge i j with hlt | hge
  ·
   obtain ⟨z,hz,hsz⟩:=h.wk i hlt
   exact ⟨z,by rw [hget _ (by omega) (by omega)]; exact hz,by rw [upd_ne D _ (by omega)]; exact hsz⟩
  ·
   obtain rfl : i = j:=by omega
   refine ⟨child,?_,by rw [upd_same,hnb]; exact .new hc⟩
   rw [show N0 + i = (gs.setIfInBounds 0 g').size by simp [h.size],Array.getElem?_push_size]
 ·
  rw [hget _ (by omega) (by omega)] at hz
  rw [deaf_still hu]
  exact h.old k z h0 hk hz
 ·
  rw [deaf_still hu]; exact h.above k (by omega)
 ·
  rw [deaf_still hu]
  rcases Nat.lt_or_ge i j with hlt | hge
  ·
   rw [h.deafW i hlt,upd_ne D _ (by omega)]
  ·
   obtain rfl : i = j:=by omega
   rw [upd_same]; exact h.above _ (Nat.le_refl _)
 ·
  rcases Nat.lt_or_ge i j with hlt | hge
  ·
   rw [upd_ne D _ (by omega)] at hs
   obtain ⟨r,hr,hT⟩:=h.rel i hlt hs
   exact ⟨r,rel_still hr hn,hT⟩
  ·
   obtain rfl : i = j:=by omega
   rw [upd_same] at hs; simp at hs
 ·
  rw [List.range_succ,List.filter_append]
  have e1 : (List.filter (fun a=>decide ((upd D j ⟨10,m,0⟩ a).stage ≤ 7)) [j]) = []:=by simp [upd_same]
  have e2 : ((List.range j).filter fun a=>decide ((upd D j ⟨10,m,0⟩ a).stage ≤ 7)) = (List.range j).filter fun a=>decide ((D a).stage ≤ 7):=by
   apply List.filter_congr
   intro a ha
   rw [upd_ne D _ (by have:=List.mem_range.1 ha; omega)]
  rw [e1,e2,List.append_nil]
  exact h.perm
end
end Go.Proofs.YtkeapmmochpcfaaGreat.Wt
namespace Go.Proofs.YtkeapmmochpcfaaGreat.Wt
open Go Go.Conc
open Nf (Says More Adding Outs Again Sema Swap Looks InB Ph Adds)
open Go.ConcN (WD cnt Vc Ssum Fsum sumTo upd upd_ne upd_same WgLive Has RelBy)
open Go.ConcR (KK WgAt stA smA rd wr mk Payload DC0 g_of_ofEvents)
set_option linter.unusedSectionVars false
variable [Payload]
section
variable (P : Program) (ty : TypeId) (Wg Ch n : Nat) (v x : Nat → Value) (la : Nat → Prop) (Hd Nx : List Nat → Goroutine → World → Prop)
def Fi (os : List Nat) (g : Goroutine) (w : World) : Prop:=∃ m,Goes P true (RS ty Wg la os) (DS la os) (Says P (RS ty Wg la os) .disable (Hd os)) m g w
def AtG (r : Nat) (os : List Nat) : Goroutine → World → Prop:=AtGo P ty Wg Ch (v (n - (r + 1))) (x (n - (r + 1))) (Script P ty Wg la Ch n v x (Fi P ty Wg la Hd) r os)
def ToG (os : List Nat) (r m2 : Nat) : Goroutine → World → Prop:=fun g w=>Goes P true (RS ty Wg la os) (DS la os) (AtG P ty Wg Ch n v x la Hd r os) m2 g w
structure Csit.Rules (C : Tg → Nat → Nat → Nat → List Nat → Goroutine → World → Prop) : Prop where
 s7 : ∀ {r m os g w},r < n → (Goes P true (RS ty Wg la os) (DS la os) (Allots P fun b g' w'=>∃ m' m2,Goes P true (RS ty Wg la (b :: os)) (DS la (b :: os)) (Adding P (RS ty Wg la (b :: os)) ty Wg (ToG P ty Wg Ch n v x la Hd (b :: os) r m2)) m' g' w') m g w) → C (.sp r 7) (n - (r + 1)) m 0 os g w
 s6 : ∀ {r m m2 os g w},r < n → Goes P true (RS ty Wg la os) (DS la os) (Adding P (RS ty Wg la os) ty Wg (ToG P ty Wg Ch n v x la Hd os r m2)) m g w → C (.sp r 6) (n - (r + 1)) m 0 os g w
 s5 : ∀ {r m m2 os g w},r < n → Goes P true (RS ty Wg la os) DC0 (More P (RS ty Wg la os) ty Wg (Says P (RS ty Wg la os) (.read (smA Wg)) (Says P (RS ty Wg la os) .enable (ToG P ty Wg Ch n v x la Hd os r m2))) (Says P (RS ty Wg la os) .enable (ToG P ty Wg Ch n v x la Hd os r m2))) m g w → C (.sp r 5) (n - (r + 1)) m 1 os g w
 s4 : ∀ {r m m2 os g w},r < n → Goes P true (RS ty Wg la os) DC0 (Says P (RS ty Wg la os) (.read (smA Wg)) (Says P (RS ty Wg la os) .enable (ToG P ty Wg Ch n v x la Hd os r m2))) m g w → C (.sp r 4) (n - (r + 1)) m 1 os g w
 s3 : ∀ {r m m2 os g w},r < n → Goes P true (RS ty Wg la os) DC0 (Says P (RS ty Wg la os) .enable (ToG P ty Wg Ch n v x la Hd os r m2)) m g w → C (.sp r 3) (n - (r + 1)) m 1 os g w
 s2 : ∀ {r m os g w},r < n → Goes P true (RS ty Wg la os) (DS la os) (AtG P ty Wg Ch n v x la Hd r os) m g w → C (.sp r 2) (n - (r + 1)) m 0 os g w
 kd : ∀ {m os g w},Goes P true (RS ty Wg la os) (DS la os) (Says P (RS ty Wg la os) .disable (Hd os)) m g w → C .kd n m 0 os g w
 hd : ∀ {m os g w},Goes P true (RS ty Wg la os) DC0 (Hd os) m g w → C .hd n m 1 os g w
 lk : ∀ {m os g w},Goes P true (RS ty Wg la os) DC0 (Looks P (RS ty Wg la os) ty Wg (Hd os) (Nx os)) m g w → C .lk n m 1 os g w
 sw : ∀ {vs m os g w},Goes P true (RS ty Wg la os) DC0 (Swap P (RS ty Wg la os) ty Wg vs (Hd os) (Nx os)) m g w → C (.sw vs) n m 1 os g w
 wr : ∀ {m os g w},Goes P true (RS ty Wg la os) DC0 (Says P (RS ty Wg la os) (.write (smA Wg)) (Sema P (RS ty Wg la os) ty Wg (Nx os))) m g w → C .wr n m 1 os g w
 sm : ∀ {m os g w},Goes P true (RS ty Wg la os) DC0 (Sema P (RS ty Wg la os) ty Wg (Nx os)) m g w → C .sm n (m + 1) 1 os g w
 bk : ∀ {os g w},(∀ w₁,RS ty Wg la os w w₁ → Sema P (RS ty Wg la os) ty Wg (Nx os) g w₁) → C .bk n 0 1 os { g with status:=.blocked } w
 ag : ∀ {m os g w},Goes P true (RS ty Wg la os) DC0 (Again P (RS ty Wg la os) ty Wg (Nx os)) m g w → C .ag n m 1 os g w
 ke : ∀ {m os g w},Goes P true (RS ty Wg la os) DC0 (Outs P (RS ty Wg la os) Wg (Nx os)) m g w → C .ke n m 1 os g w
 aq : ∀ {m os g w},Goes P true (RS ty Wg la os) DC0 (Says P (RS ty Wg la os) (.acquire (stA Wg)) (Nx os)) m g w → C .aq n m 0 os g w
def Csit (tg : Tg) (j : Nat) (f : Nat) (d : Nat) (os : List Nat) (g : Goroutine) (w : World) : Prop:=∀ C,Csit.Rules P ty Wg Ch n v x la Hd Nx C → C tg j f d os g w
end
section
variable {P : Program} {ty : TypeId} {Wg Ch n : Nat} {v x : Nat → Value} {la : Nat → Prop} {Hd Nx : List Nat → Goroutine → World → Prop}
theorem Csit.s7 {r m os g w} (h0 : r < n) (h1 : Goes P true (RS ty Wg la os) (DS la os) (Allots P fun b g' w'=>∃ m' m2,Goes P true (RS ty Wg la (b :: os)) (DS la (b :: os)) (Adding P (RS ty Wg la (b :: os)) ty Wg (ToG P ty Wg Ch n v x la Hd (b :: os) r m2)) m' g' w') m g w) : Csit P ty Wg Ch n v x la Hd Nx (.sp r 7) (n - (r + 1)) m 0 os g w:=fun _ r=>r.s7 h0 h1
theorem Csit.s6 {r m m2 os g w} (h0 : r < n) (h1 : Goes P true (RS ty Wg la os) (DS la os) (Adding P (RS ty Wg la os) ty Wg (ToG P ty Wg Ch n v x la Hd os r m2)) m g w) : Csit P ty Wg Ch n v x la Hd Nx (.sp r 6) (n - (r + 1)) m 0 os g w:=fun _ r=>r.s6 h0 h1
theorem Csit.s5 {r m m2 os g w} (h0 : r < n) (h1 : Goes P true (RS ty Wg la os) DC0 (More P (RS ty Wg la os) ty Wg (Says P (RS ty Wg la os) (.read (smA Wg)) (Says P (RS ty Wg la os) .enable (ToG P ty Wg Ch n v x la Hd os r m2))) (Says P (RS ty Wg la os) .enable (ToG P ty Wg Ch n v x la Hd os r m2))) m g w) : Csit P ty Wg Ch n v x la Hd Nx (.sp r 5) (n - (r + 1)) m 1 os g w:=fun _ r=>r.s5 h0 h1
theorem Csit.s4 {r m m2 os g w} (h0 : r < n) (h1 : Goes P true (RS ty Wg la os) DC0 (Says P (RS ty Wg la os) (.read (smA Wg)) (Says P (RS ty Wg la os) .enable (ToG P ty Wg Ch n v x la Hd os r m2))) m g w) : Csit P ty Wg Ch n v x la Hd Nx (.sp r 4) (n - (r + 1)) m 1 os g w:=fun _ r=>r.s4 h0 h1
theorem Csit.s3 {r m m2 os g w} (h0 : r < n) (h1 : Goes P true (RS ty Wg la os) DC0 (Says P (RS ty Wg la os) .enable (ToG P ty Wg Ch n v x la Hd os r m2)) m g w) : Csit P ty Wg Ch n v x la Hd Nx (.sp r 3) (n - (r + 1)) m 1 os g w:=fun _ r=>r.s3 h0 h1
theorem Csit.s2 {r m os g w} (h0 : r < n) (h1 : Goes P true (RS ty Wg la os) (DS la os) (AtG P ty Wg Ch n v x la Hd r os) m g w) : Csit P ty Wg Ch n v x la Hd Nx (.sp r 2) (n - (r + 1)) m 0 os g w:=fun _ r=>r.s2 h0 h1
theorem Csit.kd {m os g w} (h0 : Goes P true (RS ty Wg la os) (DS la os) (Says P (RS ty Wg la os) .disable (Hd os)) m g w) : Csit P ty Wg Ch n v x la Hd Nx .kd n m 0 os g w:=fun _ r=>r.kd h0
theorem Csit.hd {m os g w} (h0 : Goes P true (RS ty Wg la os) DC0 (Hd os) m g w) : Csit P ty Wg Ch n v x la Hd Nx .hd n m 1 os g w:=fun _ r=>r.hd h0
theorem Csit.lk {m os g w} (h0 : Goes P true (RS ty Wg la os) DC0 (Looks P (RS ty Wg la os) ty Wg (Hd os) (Nx os)) m g w) : Csit P ty Wg Ch n v x la Hd Nx .lk n m 1 os g w:=fun _ r=>r.lk h0
theorem Csit.sw {vs m os g w} (h0 : Goes P true (RS ty Wg la os) DC0 (Swap P (RS ty Wg la os) ty Wg vs (Hd os) (Nx os)) m g w) : Csit P ty Wg Ch n v x la Hd Nx (.sw vs) n m 1 os g w:=fun _ r=>r.sw h0
theorem Csit.wr {m os g w} (h0 : Goes P true (RS ty Wg la os) DC0 (Says P (RS ty Wg la os) (.write (smA Wg)) (Sema P (RS ty Wg la os) ty Wg (Nx os))) m g w) : Csit P ty Wg Ch n v x la Hd Nx .wr n m 1 os g w:=fun _ r=>r.wr h0
theorem Csit.sm {m os g w} (h0 : Goes P true (RS ty Wg la os) DC0 (Sema P (RS ty Wg la os) ty Wg (Nx os)) m g w) : Csit P ty Wg Ch n v x la Hd Nx .sm n (m + 1) 1 os g w:=fun _ r=>r.sm h0
theorem Csit.bk {os g w} (h0 : ∀ w₁,RS ty Wg la os w w₁ → Sema P (RS ty Wg la os) ty Wg (Nx os) g w₁) : Csit P ty Wg Ch n v x la Hd Nx .bk n 0 1 os { g with status:=.blocked } w:=fun _ r=>r.bk h0
theorem Csit.ag {m os g w} (h0 : Goes P true (RS ty Wg la os) DC0 (Again P (RS ty Wg la os) ty Wg (Nx os)) m g w) : Csit P ty Wg Ch n v x la Hd Nx .ag n m 1 os g w:=fun _ r=>r.ag h0
theorem Csit.ke {m os g w} (h0 : Goes P true (RS ty Wg la os) DC0 (Outs P (RS ty Wg la os) Wg (Nx os)) m g w) : Csit P ty Wg Ch n v x la Hd Nx .ke n m 1 os g w:=fun _ r=>r.ke h0
theorem Csit.aq {m os g w} (h0 : Goes P true (RS ty Wg la os) DC0 (Says P (RS ty Wg la os) (.acquire (stA Wg)) (Nx os)) m g w) : Csit P ty Wg Ch n v x la Hd Nx .aq n m 0 os g w:=fun _ r=>r.aq h0
theorem Csit.elim {motive : ∀ tg j f d os g w,Csit P ty Wg Ch n v x la Hd Nx tg j f d os g w → Prop}
  (s7 : ∀ {r m os g w} (h0 : r < n) (h1 : Goes P true (RS ty Wg la os) (DS la os) (Allots P fun b g' w'=>∃ m' m2,Goes P true (RS ty Wg la (b :: os)) (DS la (b :: os)) (Adding P (RS ty Wg la (b :: os)) ty Wg (ToG P ty Wg Ch n v x la Hd (b :: os) r m2)) m' g' w') m g w),motive (.sp r 7) (n - (r + 1)) m 0 os g w (.s7 h0 h1))
  (s6 : ∀ {r m m2 os g w} (h0 : r < n) (h1 : Goes P true (RS ty Wg la os) (DS la os) (Adding P (RS ty Wg la os) ty Wg (ToG P ty Wg Ch n v x la Hd os r m2)) m g w),motive (.sp r 6) (n - (r + 1)) m 0 os g w (.s6 h0 h1))
  (s5 : ∀ {r m m2 os g w} (h0 : r < n) (h1 : Goes P true (RS ty Wg la os) DC0 (More P (RS ty Wg la os) ty Wg (Says P (RS ty Wg la os) (.read (smA Wg)) (Says P (RS ty Wg la os) .enable (ToG P ty Wg Ch n v x la Hd os r m2))) (Says P (RS ty Wg la os) .enable (ToG P ty Wg Ch n v x la Hd os r m2))) m g w),motive (.sp r 5) (n - (r + 1)) m 1 os g w (.s5 h0 h1))
  (s4 : ∀ {r m m2 os g w} (h0 : r < n) (h1 : Goes P true (RS ty Wg la os) DC0 (Says P (RS ty Wg la os) (.read (smA Wg)) (Says P (RS ty Wg la os) .enable (ToG P ty Wg Ch n v x la Hd os r m2))) m g w),motive (.sp r 4) (n - (r + 1)) m 1 os g w (.s4 h0 h1))
  (s3 : ∀ {r m m2 os g w} (h0 : r < n) (h1 : Goes P true (RS ty Wg la os) DC0 (Says P (RS ty Wg la os) .enable (ToG P ty Wg Ch n v x la Hd os r m2)) m g w),motive (.sp r 3) (n - (r + 1)) m 1 os g w (.s3 h0 h1))
  (s2 : ∀ {r m os g w} (h0 : r < n) (h1 : Goes P true (RS ty Wg la os) (DS la os) (AtG P ty Wg Ch n v x la Hd r os) m g w),motive (.sp r 2) (n - (r + 1)) m 0 os g w (.s2 h0 h1))
  (kd : ∀ {m os g w} (h0 : Goes P true (RS ty Wg la os) (DS la os) (Says P (RS ty Wg la os) .disable (Hd os)) m g w),motive .kd n m 0 os g w (.kd h0))
  (hd : ∀ {m os g w} (h0 : Goes P true (RS ty Wg la os) DC0 (Hd os) m g w),motive .hd n m 1 os g w (.hd h0))
  (lk : ∀ {m os g w} (h0 : Goes P true (RS ty Wg la os) DC0 (Looks P (RS ty Wg la os) ty Wg (Hd os) (Nx os)) m g w),motive .lk n m 1 os g w (.lk h0))
  (sw : ∀ {vs m os g w} (h0 : Goes P true (RS ty Wg la os) DC0 (Swap P (RS ty Wg la os) ty Wg vs (Hd os) (Nx os)) m g w),motive (.sw vs) n m 1 os g w (.sw h0))
  (wr : ∀ {m os g w} (h0 : Goes P true (RS ty Wg la os) DC0 (Says P (RS ty Wg la os) (.write (smA Wg)) (Sema P (RS ty Wg la os) ty Wg (Nx os))) m g w),motive .wr n m 1 os g w (.wr h0))
  (sm : ∀ {m os g w} (h0 : Goes P true (RS ty Wg la os) DC0 (Sema P (RS ty Wg la os) ty Wg (Nx os)) m g w),motive .sm n (m + 1) 1 os g w (.sm h0))
  (bk : ∀ {os g w} (h0 : ∀ w₁,RS ty Wg la os w w₁ → Sema P (RS ty Wg la os) ty Wg (Nx os) g w₁),motive .bk n 0 1 os { g with status:=.blocked } w (.bk h0))
  (ag : ∀ {m os g w} (h0 : Goes P true (RS ty Wg la os) DC0 (Again P (RS ty Wg la os) ty Wg (Nx os)) m g w),motive .ag n m 1 os g w (.ag h0))
  (ke : ∀ {m os g w} (h0 : Goes P true (RS ty Wg la os) DC0 (Outs P (RS ty Wg la os) Wg (Nx os)) m g w),motive .ke n m 1 os g w (.ke h0))
  (aq : ∀ {m os g w} (h0 : Goes P true (RS ty Wg la os) DC0 (Says P (RS ty Wg la os) (.acquire (stA Wg)) (Nx os)) m g w),motive .aq n m 0 os g w (.aq h0)) {tg j f d os g w} (t : Csit P ty Wg Ch n v x la Hd Nx tg j f d os g w) : motive tg j f d os g w t :=
 t (fun tg j f d os g w=>∀ t,motive tg j f d os g w t) ⟨fun h0 h1 _=>s7 h0 h1,fun h0 h1 _=>s6 h0 h1,fun h0 h1 _=>s5 h0 h1,fun h0 h1 _=>s4 h0 h1,fun h0 h1 _=>s3 h0 h1,fun h0 h1 _=>s2 h0 h1,fun h0 _=>kd h0,fun h0 _=>hd h0,fun h0 _=>lk h0,fun h0 _=>sw h0,fun h0 _=>wr h0,fun h0 _=>sm h0,fun h0 _=>bk h0,fun h0 _=>ag h0,fun h0 _=>ke h0,fun h0 _=>aq h0⟩ t
end
section
variable {P : Program} {ty : TypeId} {Wg Ch n : Nat} {v x : Nat → Value} {la : Nat → Prop} {Hd Nx : List Nat → Goroutine → World → Prop} {tg : Tg} {j f d : Nat} {os : List Nat} {g : Goroutine} {w w₁ w' : World}
theorem Csit.rely (h : Csit P ty Wg Ch n v x la Hd Nx tg j f d os g w) (hr : RS ty Wg la os w w₁) : Csit P ty Wg Ch n v x la Hd Nx tg j f d os g w₁:=by
 have tr : ∀ (os : List Nat) a b c,RS ty Wg la os a b → RS ty Wg la os b c → RS ty Wg la os a c:=fun _ _ _ _ h1 h2=>h1.trans h2
 cases h using Csit.elim with
 | s7 hn h=>exact .s7 hn (Goes.rely (tr _) h hr)
 | s6 hn h=>exact .s6 hn (Goes.rely (tr _) h hr)
 | s5 hn h=>exact .s5 hn (Goes.rely (tr _) h hr)
 | s4 hn h=>exact .s4 hn (Goes.rely (tr _) h hr)
 | s3 hn h=>exact .s3 hn (Goes.rely (tr _) h hr)
 | s2 hn h=>exact .s2 hn (Goes.rely (tr _) h hr)
 | kd h=>exact .kd (Goes.rely (tr _) h hr)
 | hd h=>exact .hd (Goes.rely (tr _) h hr)
 | lk h=>exact .lk (Goes.rely (tr _) h hr)
 | sw h=>exact .sw (Goes.rely (tr _) h hr)
 | wr h=>exact .wr (Goes.rely (tr _) h hr)
 | sm h=>exact .sm (Goes.rely (tr _) h hr)
 | bk h=>exact .bk fun w₂ h₂=>h w₂ (hr.trans h₂)
 | ag h=>exact .ag (Goes.rely (tr _) h hr)
 | ke h=>exact .ke (Goes.rely (tr _) h hr)
 | aq h=>exact .aq (Goes.rely (tr _) h hr)
theorem Csit.status (hHd : ∀ os g w,Hd os g w → g.status = .running) (h : Csit P ty Wg Ch n v x la Hd Nx tg j f d os g w) : (g.status = .running ∧ tg ≠ .bk) ∨ (g.status = .blocked ∧ tg = .bk):=by
 cases h using Csit.elim with
 | bk h=>exact .inr ⟨rfl,rfl⟩
 | s7 hn h=>exact .inl ⟨runs_of (fun _ _ y=>y.1) (RS.refl w) h,fun e=>by cases e⟩
 | s6 hn h=>exact .inl ⟨runs_of (fun _ _ y=>y.1) (RS.refl w) h,fun e=>by cases e⟩
 | s5 hn h=>exact .inl ⟨runs_of (fun _ _ y=>y.1) (RS.refl w) h,fun e=>by cases e⟩
 | s4 hn h=>exact .inl ⟨runs_of (fun _ _ y=>y.1) (RS.refl w) h,fun e=>by cases e⟩
 | s3 hn h=>exact .inl ⟨runs_of (fun _ _ y=>y.1) (RS.refl w) h,fun e=>by cases e⟩
 | s2 hn h=>exact .inl ⟨runs_of (fun _ _ y=>y.1) (RS.refl w) h,fun e=>by cases e⟩
 | kd h=>exact .inl ⟨runs_of (fun _ _ y=>y.1) (RS.refl w) h,fun e=>by cases e⟩
 | hd h=>exact .inl ⟨runs_of (hHd _) (RS.refl w) h,fun e=>by cases e⟩
 | lk h=>exact .inl ⟨runs_of (fun _ _ y=>y.1) (RS.refl w) h,fun e=>by cases e⟩
 | sw h=>exact .inl ⟨runs_of (fun _ _ y=>y.1) (RS.refl w) h,fun e=>by cases e⟩
 | wr h=>exact .inl ⟨runs_of (fun _ _ y=>y.1) (RS.refl w) h,fun e=>by cases e⟩
 | sm h=>exact .inl ⟨runs_of (fun _ _ y=>y.1) (RS.refl w) h,fun e=>by cases e⟩
 | ag h=>exact .inl ⟨runs_of (fun _ _ y=>y.1) (RS.refl w) h,fun e=>by cases e⟩
 | ke h=>exact .inl ⟨runs_of (fun _ _ y=>y.1) (RS.refl w) h,fun e=>by cases e⟩
 | aq h=>exact .inl ⟨runs_of (fun _ _ y=>y.1) (RS.refl w) h,fun e=>by cases e⟩
theorem Csit.bound (h : Csit P ty Wg Ch n v x la Hd Nx tg j f d os g w) : j + pend tg ≤ n:=by
 cases h using Csit.elim <;> simp only [pends] <;> (try simp) <;> omega
theorem Csit.stirred (hHd : ∀ os g w,Hd os g w → g.status = .running) (h : Csit P ty Wg Ch n v x la Hd Nx tg j f d os g w) (hr : RS ty Wg la os w w') (a a' : Goroutine) :
  ∃ tg' f',Csit P ty Wg Ch n v x la Hd Nx tg' j f' d os (woken P a a' w' g) w' ∧ f' ≤ f + 1 ∧ (tg' = tg ∨ (tg = .bk ∧ tg' = .sm)) ∧ (mayWake P a = true → a'.status = .running → tg' ≠ .bk):=by
 have h':=h.rely hr
 by_cases hc : (mayWake P a && a'.status != .blocked && a'.status != .waiting) = true
 ·
  have e : woken P a a' w' g = g.again w':=by unfold Go.Conc.woken; rw [if_pos hc]
  rw [e]
  rcases h'.status hHd with ⟨hs,hne⟩ | ⟨_,rfl⟩
  ·
   rw [again_running _ (.inl hs)]
   exact ⟨tg,f,h',by omega,.inl rfl,fun _ _=>hne⟩
  ·
   cases h' using Csit.elim with
   | bk hb =>
    have h3:=hb w' (RS.refl w')
    rw [Go.ConcR.again_blocked h3.1 h3.2.1]
    exact ⟨.sm,0 + 1,.sm (Goes.stop hb),by omega,.inr ⟨rfl,rfl⟩,fun _ _ e=>by cases e⟩
 ·
  have e : woken P a a' w' g = g:=by unfold Go.Conc.woken; rw [if_neg hc]
  rw [e]
  exact ⟨tg,f,h',by omega,.inl rfl,fun h1 h2=>absurd (by simp [h1,h2]) hc⟩
end
end Go.Proofs.YtkeapmmochpcfaaGreat.Wt
