/- Joined. -/
import Derived.Test.YtifeihnhkbagpaaGreatDoorZzz
namespace Go.Proofs.YtifeihnhkbagpaaGreatDoor.P.Chk
def S (c:Nat):Nat:=if c % 2=1 then (c / 2) ^^^ 3988292384 else c / 2
def It:Nat->Nat->Nat
 | 0,c=>c
 | n+1,c=>It n (S c)
def F (c b:Nat):Nat:=It 8 (c ^^^ b)
def run (g:Nat->Nat) (c:Nat):Nat->Nat
 | 0=>c
 | k+1=>F (run g c k) (g k)
theorem Mx(a b c d:Nat):(a ^^^ b) ^^^ (c ^^^ d)=(a ^^^ c) ^^^ (b ^^^ d):=by
 apply Nat.eq_of_testBit_eq;intro i;simp[Nat.testBit_xor];cases a.testBit i <;> cases b.testBit i <;> cases c.testBit i <;> cases d.testBit i <;> rfl
theorem MB(a b:Nat):b ^^^ (b ^^^ a)=a:=by rw[<- Nat.xor_assoc,Nat.xor_self,Nat.zero_xor]
theorem YZ(a b:Nat):(a ^^^ b) % 2=(a % 2) ^^^ (b % 2):=by
 have:=@Nat.xor_mod_two_pow a b 1;simpa using this
theorem UM:S 0=0:=by decide
theorem WO(a b:Nat):S (a ^^^ b)=S a ^^^ S b:=by
 unfold S;rw[YZ,Nat.xor_div_two];rcases Nat.mod_two_eq_zero_or_one a with ha | ha <;> rcases Nat.mod_two_eq_zero_or_one b with hb | hb <;> simp[ha,hb]
 ·rw[Nat.xor_assoc]
 ·rw[Nat.xor_assoc,Nat.xor_comm (b / 2),<- Nat.xor_assoc]
 ·rw[Mx,Nat.xor_self,Nat.xor_zero]
variable {a:Nat}
theorem Y6(h:a<4294967296):S a<4294967296:=by
 unfold S;split
 ·exact Nat.xor_lt_two_pow (n:=32) (by omega) (by omega)
 ·omega
theorem Bf(n:Nat):It n 0=0:=by
 induction n with
 | zero=>rfl
 | succ n ih=>rw[It,UM,ih]
theorem MC(n a b:Nat):It n (a ^^^ b)=It n a ^^^ It n b:=by
 induction n generalizing a b with
 | zero=>rfl
 | succ n ih=>simp only[It];rw[WO,ih]
theorem CL(n:Nat){a:Nat}(h:a<4294967296):It n a<4294967296:=by
 induction n generalizing a with
 | zero=>exact h
 | succ n ih=>exact ih (Y6 h)
theorem UN(m n a:Nat):It (m+n) a=It n (It m a):=by
 induction m generalizing a with
 | zero=>simp[It]
 | succ m ih=>rw[Nat.succ_add];simp only[It];rw[ih]
theorem Y7(n a:Nat):S (It n a)=It (n+1) a:=by rw[UN];rfl
theorem ME(k y:Nat):It k (y*2 ^ k)=y:=by
 induction k generalizing y with
 | zero=>simp[It]
 | succ k ih=>
  have e:y*2 ^ (k+1)=2*(y*2 ^ k):=by rw[Nat.pow_succ,<- Nat.mul_assoc,Nat.mul_comm]
  have h:S (y*2 ^ (k+1))=y*2 ^ k:=by
   rw[e];unfold S;rw[aai (by omega)];omega
  rw[It,h,ih]
theorem UO(x:Nat):x=(x % 256) ^^^ (x / 256*256):=by
 apply Nat.eq_of_testBit_eq;intro i;rw[Nat.testBit_xor];have h1:(x % 256).testBit i=(decide (i<8) && x.testBit i):=Nat.testBit_mod_two_pow x 8 i;have h2:(x / 256*256).testBit i=(decide (8<=i) && x.testBit i):=by
  rw[show (256:Nat)=2 ^ 8 from rfl,Nat.testBit_mul_two_pow,Nat.testBit_div_two_pow];by_cases h:8<=i
  ·simp[h]
  ·simp[h]
 rw[h1,h2];by_cases h:i<8
 ·have:¬ 8<=i:=by omega
  simp[h,this]
 ·have:8<=i:=by omega
  simp[h,this]
theorem It8(x:Nat):It 8 x=It 8 (x % 256) ^^^ (x / 256):=by
 have h:=MC 8 (x % 256) (x / 256*256);rw[<- UO,ME 8 (x / 256)]at h;exact h
theorem QO(c b:Nat)(hb:b<256):F c b=It 8 ((c % 256) ^^^ b) ^^^ (c / 256):=by
 unfold F;rw[It8];have h1:(c ^^^ b) % 256=(c % 256) ^^^ b:=by
  have:=@Nat.xor_mod_two_pow c b 8;simp only[Nat.reducePow]at this;rw[this,Nat.mod_eq_of_lt hb]
 have h2:(c ^^^ b) / 256=c / 256:=by
  have:=@Nat.xor_div_two_pow c b 8;simp only[Nat.reducePow]at this;rw[this,Nat.div_eq_of_lt hb,Nat.xor_zero]
 rw[h1,h2]
theorem Za{c b:Nat}(hc:c<4294967296)(hb:b<256):F c b<4294967296:=
 CL 8 (Nat.xor_lt_two_pow (n:=32) hc (by omega))
variable {g:Nat->Nat}
theorem MF(hg:∀ k,g k<256){c:Nat}(hc:c<4294967296)(n:Nat):run g c n<4294967296:=by
 induction n with
 | zero=>exact hc
 | succ n ih=>exact Za ih (hg n)
def check (g:Nat->Nat) (n:Nat):Nat:=run g 4294967295 n ^^^ 4294967295
theorem MG(hg:∀ k,g k<256)(n:Nat):check g n<4294967296:=
 Nat.xor_lt_two_pow (n:=32) (MF hg (by omega) n) (by omega)
/-! ### Products -/
def mul (a b:Nat):Nat->Nat
 | 0=>0
 | k+1=>mul a b k ^^^ (if a / 2 ^ (31-k) % 2=1 then It k b else 0)
theorem UQ{k:Nat}(hk:k<=31):It k 2147483648=2 ^ (31-k):=by
 have h:=ME k (2 ^ (31-k));rw[<- Nat.pow_add,show 31-k+k=31 by omega]at h;exact h
theorem Bg(a:Nat){k:Nat}(hk:k<=32)(i:Nat):(mul a 2147483648 k).testBit i=(decide (32-k<=i/\i<=31) && a.testBit i):=by
 induction k with
 | zero=>
  have:¬ (32-0<=i/\i<=31):=by omega
  simp only[mul,Nat.zero_testBit,this,decide_false,Bool.false_and]
 | succ k ih=>
  simp only[mul];rw[Nat.testBit_xor,ih (by omega),UQ (by omega)];by_cases hi:i=31-k
  ·subst hi
   have h1:¬ (32-k<=31-k/\31-k<=31):=by omega
   have h2:32-(k+1)<=31-k/\31-k<=31:=by omega
   rw[decide_eq_false h1,decide_eq_true h2,Bool.false_and,Bool.false_xor,Bool.true_and];have h3:a.testBit (31-k)=decide (a / 2 ^ (31-k) % 2=1):=Nat.testBit_eq_decide_div_mod_eq;rw[h3];split
   ·next h=>rw[Nat.testBit_two_pow_self,decide_eq_true h]
   ·next h=>rw[Nat.zero_testBit,decide_eq_false h]
  ·have h4:(if a / 2 ^ (31-k) % 2=1 then 2 ^ (31-k) else 0).testBit i=false:=by
    split
    ·rw[Nat.testBit_two_pow_of_ne (by omega)]
    ·rw[Nat.zero_testBit]
   rw[h4,Bool.xor_false];have h5:(32-k<=i/\i<=31)↔(32-(k+1)<=i/\i<=31):=by omega
   rw[decide_eq_decide.mpr h5]
theorem mul_one(ha:a<4294967296):mul a 2147483648 32=a:=by
 apply Nat.eq_of_testBit_eq;intro i;rw[Bg a (by omega)];by_cases h:i<=31
 ·have:32-32<=i/\i<=31:=by omega
  rw[decide_eq_true this,Bool.true_and]
 ·have h1:¬ (32-32<=i/\i<=31):=by omega
  rw[decide_eq_false h1,Bool.false_and];symm;apply Nat.testBit_lt_two_pow;exact aas ha (by
   have:(2:Nat) ^ 32<=2 ^ i:=Nat.pow_le_pow_right (by omega) (by omega)
   simpa using this)
/-! ### Bytes that differ within four -/
